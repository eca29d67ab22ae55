import Derived.Test.YtoickolhekhgmaaGreatDoorCards
import Derived.Test.YtoickolhekhgmaaGreatDoorTie
import Derived.Test.YtoickolhekhgmaaGreatDoorEn82a82d3d
import Derived.Lib.LaidU8
import Derived.Lay
import Derived.Deep.DeepWitnessRowRef
import Derived.Test.YtoickolhekhgmaaGreatDoorEn4231915e
namespace Go.Proofs.YtoickolhekhgmaaGreatDoor.Gt
end Go.Proofs.YtoickolhekhgmaaGreatDoor.Gt
namespace Go.Proofs.YtoickolhekhgmaaGreatDoor.Oct
end Go.Proofs.YtoickolhekhgmaaGreatDoor.Oct
namespace Go.Proofs.YtoickolhekhgmaaGreatDoor.Pau
end Go.Proofs.YtoickolhekhgmaaGreatDoor.Pau
namespace Go.Proofs.YtoickolhekhgmaaGreatDoor.Tok
end Go.Proofs.YtoickolhekhgmaaGreatDoor.Tok
set_option maxRecDepth 100000
namespace Go.Proofs.YtoickolhekhgmaaGreatDoor.Pau
open Go.ChangeShapes Go.WideShapes Go.ChangeAt Go.RowKit Go.Shelf Go.Proofs.YtoickolhekhgmaaGreatDoor.Oct Go.Proofs.YtoickolhekhgmaaGreatDoor.Gt
theorem own : ownKnob Tryz.prog.godebug = none := by kernel_rfl
theorem laidOut : laidOutB Tryz.prog = true := by kernel_rfl
section
variable {H : Type} {enc : TypeId × Value -> H} {P : Program}
theorem trodAll_below (hl : laidOutB P = true) {W W' : World} (hb : Below W.heap.size W W') : ∀ (ts : List TypeId) (vs : List Value) (ds : List (DataW H)) (ps : List MemPlace), (∀ t ∈ ts, P.readableRec t = true /\ t < P.types.size) ->
    DataW.TrodAll enc P W 0 (fun _ => true) true ts vs ds ps -> (∀ x ∈ ps, x.block < W.heap.size) -> DataW.TrodAll enc P W' 0 (fun b => decide (b < W.heap.size)) true ts vs ds ps
  | [], vs, ds, ps, _, h, _ => by
    obtain ⟨rfl, rfl, rfl⟩ := trodAll_nil h
    exact trodAll_mk0
  | t :: ts, vs, ds, ps, hr, h, hlt => by
    obtain ⟨v, vs', d, ds', p, q, rfl, rfl, rfl, h0, h1⟩ := trodAll_cons h
    exact trodAll_cons_mk (Below.trod hl (hr t (by simp)).1 (hr t (by simp)).2 h0 hb (fun x hx => hlt x (by simp [hx]))) (trodAll_below hl hb ts vs' ds' q (fun t ht => hr t (by simp [ht])) h1 (fun x hx => hlt x (by simp [hx])))
theorem law_post (f : Func) (s : ChangeSpec) (tb : TypeId) (hl : laidOutB P = true) (hvars : s.vars = []) (hread : ∀ t ∈ f.params.toList, P.readableRec t = true /\ t < P.types.size) (hres : f.resultTypes = #[tb]) (htb : P.underlying tb = some .bool)
    {W W' : World} {args : Array Value} {ds gs : List (DataW H)} {before : List MemPlace} (hW : DataW.Whole enc P f.params.toList s.vars false W args.toList ds gs before)
    (hs : (s.fn H ds).results = [.lit (.bool true)] /\ (s.fn H ds).args = ds /\ (s.fn H ds).vars = []) (hb : Below W.heap.size W W') : s.post enc P f false true false false W args (.bool true) W' := by
  have hW' := hW
  obtain ⟨p, q, hA, hV, rfl, h5, h6⟩ := hW
  rw [hvars] at hV
  obtain ⟨rfl, rfl⟩ := trodVars_none hV
  refine ⟨ds, [], p ++ [], [], p, [], hW', ?_, ?_, ?_, hb.frame _, fun h => by cases h⟩
  . rw [List.append_nil, hs.1, hres]
    exact trodAll_mk1 (shut_bool htb _)
  . rw [List.append_nil, hs.2.1]
    exact trodAll_below hl hb _ _ _ _ hread hA (fun x hx => hW'.lt x (by simp [hx]))
  . rw [List.append_nil, hs.2.2, hvars]
    rfl
end
theorem var_at {W : World} {n : String} {g : Nat} {cs : Array Value} (hg : Tryz.prog.globalNamed n = some g) (hv : W.var? Tryz.prog n = some cs) (i : Nat) {v : Value} (h : cs[i]? = some v) : W.cell? ⟨g, i, none⟩ = some v := by
  have := World.var?_cell hg hv i
  rw [h] at this
  exact this
section
variable {H : Type} {enc : TypeId × Value -> H} {W : World} {base : Nat} {sp : Nat -> Bool} {held : Bool} {fuel : Nat} {cs : List Value} {d : DataW H} {q : List MemPlace}
theorem int_of {t : TypeId} (ht : Tryz.prog.underlying t = some (.int .i64)) (h : DataW.trod enc Tryz.prog W base sp held fuel t cs = some (d, q)) : ∃ z, cs = [.int .i64 z] /\ d = .lit (.int .i64 z)  := by
  cases fuel with
  | zero => simp [DataW.trod] at h
  | succ fuel =>
    simp only [DataW.trod, ht] at h
    split at h <;> first | (rename_i e _; cases e; done) | (rename_i e; cases e; done) | (cases h; done) | skip
    rename_i k k' z e
    injection e with e
    injection e with e
    subst e
    split at h
    . rename_i hw
      cases h
      obtain ⟨rfl, hwf⟩ := hw
      exact ⟨z, rfl, rfl⟩
    . cases h
theorem str_of {bs : List UInt8} (h : DataW.trod enc Tryz.prog W base sp held fuel 9 cs = some (.lit (.string bs), q)) : cs = [.string ⟨bs.toArray⟩] := by
  cases fuel with
  | zero => simp [DataW.trod] at h
  | succ fuel =>
    simp only [DataW.trod, Tryz.underlying9] at h
    split at h <;> first | (rename_i e; cases e; done) | simp_all
    apply ByteArray.ext
    rw [← h.2.1]
theorem int_is {t : TypeId} {z : Int} (ht : Tryz.prog.underlying t = some (.int .i64)) (h : DataW.trod enc Tryz.prog W base sp held fuel t cs = some (.lit (.int .i64 z), q)) : cs = [.int .i64 z] := by
  obtain ⟨z', hc, hd⟩ := int_of ht h
  cases hd
  exact hc
theorem cellsR : Tryz.prog.cellsOf 97 = 6 := by kernel_rfl
theorem cellsS : Tryz.prog.cellsOf 9 = 1 := by kernel_rfl
theorem cellsI : Tryz.prog.cellsOf 3 = 1 := by kernel_rfl
theorem cellsT : Tryz.prog.cellsOf 95 = 1 := by kernel_rfl
theorem cellsG : Tryz.prog.cellsOf 45 = 1 := by kernel_rfl
theorem row_of {nm : List UInt8} {a b c v o : Int} (h : DataW.trod enc Tryz.prog W base sp held fuel 97 cs = some (.agg [.lit (.string nm), .lit (.int .i64 a), .lit (.int .i64 b), .lit (.int .i64 c), .lit (.int .i64 v), .lit (.int .i64 o)], q)) : cs = Rw.cells ⟨nm, a, b, c, v, o⟩ := by
  obtain ⟨xs, n, _, hx, hl, hlen, hf⟩ := DataW.trod_struct Tryz.underlying97 h
  rw [cellsR] at hl
  match xs, hlen with
  | [y0, y1, y2, y3, y4, y5], _ =>
    simp only [List.map_cons, List.map_nil, Prod.mk.injEq, DataW.agg.injEq, List.cons.injEq, and_true] at hx
    obtain ⟨⟨e0, e1, e2, e3, e4, e5⟩, _⟩ := hx
    obtain ⟨y0, p0⟩ := y0
    obtain ⟨y1, p1⟩ := y1
    obtain ⟨y2, p2⟩ := y2
    obtain ⟨y3, p3⟩ := y3
    obtain ⟨y4, p4⟩ := y4
    obtain ⟨y5, p5⟩ := y5
    dsimp only at e0 e1 e2 e3 e4 e5
    subst e0 e1 e2 e3 e4 e5
    have h0 : DataW.trod enc Tryz.prog W base sp held n 9 ((cs.drop 0).take (Tryz.prog.cellsOf 9)) = some (.lit (.string nm), p0) := hf 0 _ rfl
    have h1 : DataW.trod enc Tryz.prog W base sp held n 3 ((cs.drop 1).take (Tryz.prog.cellsOf 3)) = some (.lit (.int .i64 a), p1) := hf 1 _ rfl
    have h2 : DataW.trod enc Tryz.prog W base sp held n 3 ((cs.drop 2).take (Tryz.prog.cellsOf 3)) = some (.lit (.int .i64 b), p2) := hf 2 _ rfl
    have h3 : DataW.trod enc Tryz.prog W base sp held n 95 ((cs.drop 3).take (Tryz.prog.cellsOf 95)) = some (.lit (.int .i64 c), p3) := hf 3 _ rfl
    have h4 : DataW.trod enc Tryz.prog W base sp held n 45 ((cs.drop 4).take (Tryz.prog.cellsOf 45)) = some (.lit (.int .i64 v), p4) := hf 4 _ rfl
    have h5 : DataW.trod enc Tryz.prog W base sp held n 45 ((cs.drop 5).take (Tryz.prog.cellsOf 45)) = some (.lit (.int .i64 o), p5) := hf 5 _ rfl
    rw [cellsS] at h0
    rw [cellsI] at h1 h2
    rw [cellsT] at h3
    rw [cellsG] at h4 h5
    clear hf h
    match cs, hl with
    | [x0, x1, x2, x3, x4, x5], _ =>
      simp only [List.drop_zero, List.drop_succ_cons, List.take_succ_cons, List.take_zero] at h0 h1 h2 h3 h4 h5
      have k0 := str_of h0
      have k1 := int_is Tryz.underlying3 h1
      have k2 := int_is Tryz.underlying3 h2
      have k3 := int_is Tryz.underlying95 h3
      have k4 := int_is Tryz.underlying45 h4
      have k5 := int_is Tryz.underlying45 h5
      cases k0; cases k1; cases k2; cases k3; cases k4; cases k5
      rfl
end
def rwDat {H : Type} (r : Rw) : DataW H := .agg [.lit (.string r.nm), .lit (.int .i64 r.q), .lit (.int .i64 r.c), .lit (.int .i64 r.t), .lit (.int .i64 r.v), .lit (.int .i64 r.o)]
theorem table_same : (Rows.laid_phasor_gate_table : DataW Unit) = .agg (tab.map rwDat) := by kernel_rfl
theorem flat_at {α : Type} (F : α -> List Value) (m : Nat) (hm : ∀ a, (F a).length = m) : ∀ (l : List α) (j : Nat) (v : Value), (l.flatMap F)[j]? = some v -> 0 < m -> ∃ a, l[j / m]? = some a /\ (F a)[j % m]? = some v
  | [], j, v, h, _ => by simp at h
  | a :: r, j, v, h, h0 => by
    rw [List.flatMap_cons] at h
    by_cases c : j < m
    . rw [List.getElem?_append_left (by rw [hm]; exact c)] at h
      rw [Nat.div_eq_of_lt c, Nat.mod_eq_of_lt c]
      exact ⟨a, rfl, h⟩
    . rw [List.getElem?_append_right (by rw [hm]; omega), hm] at h
      obtain ⟨b, h1, h2⟩ := flat_at F m hm r (j - m) v h h0
      have hd : j / m = (j - m) / m + 1 := by rw [Nat.div_eq_sub_div h0 (by omega)]
      have hr : j % m = (j - m) % m := by rw [Nat.mod_eq_sub_mod (by omega)]
      exact ⟨b, by rw [hd]; simpa using h1, by rw [hr]; exact h2⟩
theorem tb_of {W : World} (h : Lib.VarReads Tryz.prog W "phasor/gate.table" Rows.laid_phasor_gate_table) : Tb W := by
  obtain ⟨g, t, cs, fuel, p, h1, h2, h3, h4⟩ := h
  obtain rfl := Option.some.inj ((show Tryz.prog.globalNamed "phasor/gate.table" = some 1 by kernel_rfl).symm.trans h1)
  obtain rfl := Option.some.inj ((show (Tryz.prog.globals[1]?).map (·.type) = some 126 by kernel_rfl).symm.trans h2)
  intro j v hj
  refine var_at h1 h3 j ?_
  obtain ⟨r, hr, hv⟩ := flat_at Rw.cells 6 (fun _ => rfl) tab j v hj (by decide)
  rw [table_same] at h4
  have hlt : j / 6 < 21 := by simpa [tab] using (List.getElem?_eq_some_iff.1 hr).1
  obtain ⟨fuel', d, q, hd, ht⟩ := Lib.array_elem Tryz.underlying126 h4 (j / 6) hlt
  rw [List.getElem?_map, hr] at hd
  cases hd
  rw [cellsR] at ht
  have e := row_of ht
  rw [show Rw.cells ⟨r.nm, r.q, r.c, r.t, r.v, r.o⟩ = r.cells from rfl] at e
  rw [← e, List.getElem?_take, if_pos (Nat.mod_lt _ (by decide)), List.getElem?_drop, show j / 6 * 6 + j % 6 = j by omega] at hv
  rw [← Array.getElem?_toList]
  exact hv
theorem cells3 : Tryz.prog.cellsOf 120 = 3 := by kernel_rfl
theorem cells23 : Tryz.prog.cellsOf 121 = 6 := by kernel_rfl
theorem signs_same : (Rows.laid_phasor_pauli_signs : DataW Unit) = .agg ((List.range 4).map fun j => .lit (.string (sg j))) := by kernel_rfl
theorem images_same : (Rows.laid_phasor_pauli_images : DataW Unit) = .agg ((List.range 18).map fun k => .agg ((List.range 2).map fun t => .agg ((List.range 3).map fun i => .lit (.string (im k t i))))) := by kernel_rfl
theorem ts_of {W : World} (h : Lib.VarReads Tryz.prog W "phasor/pauli.signs" Rows.laid_phasor_pauli_signs) : Ts W := by
  obtain ⟨g, t, cs, fuel, p, h1, h2, h3, h4⟩ := h
  obtain rfl := Option.some.inj ((show Tryz.prog.globalNamed "phasor/pauli.signs" = some 2 by kernel_rfl).symm.trans h1)
  obtain rfl := Option.some.inj ((show (Tryz.prog.globals[2]?).map (·.type) = some 159 by kernel_rfl).symm.trans h2)
  intro j hj
  refine var_at h1 h3 j ?_
  rw [signs_same] at h4
  obtain ⟨fuel', d, q, hd, ht⟩ := Lib.array_elem Tryz.underlying159 h4 j hj
  rw [List.getElem?_map, List.getElem?_range hj] at hd
  cases hd
  rw [cellsS] at ht
  have e := str_of ht
  have := congrArg (·[0]?) e
  simp only [Nat.mul_one, List.getElem?_take, List.getElem?_drop, Nat.add_zero, List.getElem?_cons_zero, Nat.lt_one_iff, if_true] at this
  rw [← Array.getElem?_toList]
  exact this
theorem ti_of {W : World} (h : Lib.VarReads Tryz.prog W "phasor/pauli.images" Rows.laid_phasor_pauli_images) : Ti W := by
  obtain ⟨g, t, cs, fuel, p, h1, h2, h3, h4⟩ := h
  obtain rfl := Option.some.inj ((show Tryz.prog.globalNamed "phasor/pauli.images" = some 0 by kernel_rfl).symm.trans h1)
  obtain rfl := Option.some.inj ((show (Tryz.prog.globals[0]?).map (·.type) = some 122 by kernel_rfl).symm.trans h2)
  intro j hj
  refine var_at h1 h3 j ?_
  rw [images_same] at h4
  have a1 : j / 6 < 18 := by omega
  have a2 : j % 6 / 3 < 2 := by omega
  have a3 : j % 3 < 3 := by omega
  obtain ⟨fuel', d, q, hd, ht⟩ := Lib.array_elem Tryz.underlying122 h4 (j / 6) a1
  rw [List.getElem?_map, List.getElem?_range a1] at hd
  cases hd
  rw [cells23] at ht
  obtain ⟨fuel2, d2, q2, hd2, ht2⟩ := Lib.array_elem Tryz.underlying121 ht (j % 6 / 3) a2
  rw [List.getElem?_map, List.getElem?_range a2] at hd2
  cases hd2
  rw [cells3] at ht2
  obtain ⟨fuel3, d3, q3, hd3, ht3⟩ := Lib.array_elem Tryz.underlying120 ht2 (j % 3) a3
  rw [List.getElem?_map, List.getElem?_range a3] at hd3
  cases hd3
  rw [cellsS] at ht3
  have e := str_of ht3
  have := congrArg (·[0]?) e
  simp only [Nat.mul_one, List.getElem?_take, List.getElem?_drop, Nat.add_zero, List.getElem?_cons_zero, Nat.lt_one_iff, if_true] at this
  rw [if_pos (by omega), if_pos (by omega)] at this
  rw [← Array.getElem?_toList]
  have e2 : j / 6 * 6 + (j % 6 / 3 * 3 + j % 3) = j := by omega
  rw [e2] at this
  rw [this]
  unfold im
  rw [show j / 6 * 6 + j % 6 / 3 * 3 + j % 3 = j by omega]
abbrev laid8 : List (String × DataW Unit) := Rows.expectCarriesRow.laid
theorem tg_of {W : World} (h : laidMet Tryz.prog laid8 W) : Tbl.Tg W :=
  ⟨tb_of (Lib.laidMet.reads h (by first | exact .head _ | exact .tail _ (.head _) | exact .tail _ (.tail _ (.head _)) | exact .tail _ (.tail _ (.tail _ (.head _))) | exact .tail _ (.tail _ (.tail _ (.tail _ (.head _)))))),
    ts_of (Lib.laidMet.reads h (by first | exact .head _ | exact .tail _ (.head _) | exact .tail _ (.tail _ (.head _)) | exact .tail _ (.tail _ (.tail _ (.head _))) | exact .tail _ (.tail _ (.tail _ (.tail _ (.head _)))))),
    ti_of (Lib.laidMet.reads h (by first | exact .head _ | exact .tail _ (.head _) | exact .tail _ (.tail _ (.head _)) | exact .tail _ (.tail _ (.tail _ (.head _))) | exact .tail _ (.tail _ (.tail _ (.tail _ (.head _))))))⟩
noncomputable def laidWorld (os : Os) : World := World.laidAll Tryz.prog os laid8
theorem laidWorld_os (os : Os) : (laidWorld os).os = os := World.laidAll_os _ _ _
theorem laid_met8 (os : Os) (args : Array Value) : laidMet Tryz.prog laid8 ((laidWorld os).forCall (fun _ _ => 0) ⟨#[], args, []⟩).memory :=
  laidMet_laidAll args (by kernel_rfl) (by kernel_rfl)
theorem plain8 {W : World} (h : laidMetH Tryz.prog laid8 W) : laidMet Tryz.prog laid8 W := by
  have e : (laid8.filter fun x => x.2.handleName?.isSome) = [] := by kernel_rfl
  unfold laidMetH at h
  rw [e] at h
  exact h
theorem shaped8 (os : Os) (args : Array Value) : ((laidWorld os).forCall (fun _ _ => 0) ⟨#[], args, []⟩).Shaped Tryz.prog := World.shaped_of_ZipB (by kernel_rfl) (by kernel_rfl)
theorem witness_row_shaped {H : Type} {enc : TypeId × Value -> H} {C : Checked} {os : Os} {f : FuncId} {fn : Func} {s : OpenSpec} {conds : List PathCond} {apart : Bool} {laid : List (String × DataW Unit)} (modest : Bool) (w0 : World) (args : Array Value) (hos : w0.os = os)
    (hsh : (w0.forCall (fun _ _ => 0) ⟨#[], args, []⟩).Shaped C.prog) (hok : Input.okWideB C.prog (w0.forCall (fun _ _ => 0) ⟨#[], args, []⟩) f ⟨#[], args, []⟩ = true)
    (hrow : s.preRow enc C.prog fn conds apart laid (w0.forCall (fun _ _ => 0) ⟨#[], args, []⟩).memory args) :
    ∃ (w : World) (tape : Tape) (i : Input), w.os = os /\ (w.forCall tape i).Shaped C.prog /\ i.vars = [] /\ Input.okWide C.prog (w.forCall tape i) .any w.heap.size f i /\
      s.preRow enc C.prog fn conds apart laid (w.forCall tape i).memory i.args /\ ({ modest := modest } : Assume).holds C.prog (lone (Frame.enter C.prog f i.args .normal) [] (w.forCall tape i)) :=
  ⟨w0, fun _ _ => 0, ⟨#[], args, []⟩, hos, hsh, (Input.okWide_of_okWideB (base := 0) hok).1, (Input.okWide_of_okWideB hok).2, hrow, by
    simp only [Assume.holds]
    exact ⟨by simp, by simp, fun _ => Modest.zero, by simp, by simp⟩⟩
end Go.Proofs.YtoickolhekhgmaaGreatDoor.Pau
namespace Go.Proofs.YtoickolhekhgmaaGreatDoor.Tbl
open Go.ChangeShapes Go.WideShapes Go.ChangeAt Go.RowKit Go.Shelf Go.Proofs.YtoickolhekhgmaaGreatDoor.Pau Go.Proofs.YtoickolhekhgmaaGreatDoor.Gt
theorem cellsP14 : Tryz.prog.cellsOf 27 = 4 := by kernel_rfl
theorem cellsU14 : Tryz.prog.cellsOf 25 = 1 := by kernel_rfl
theorem cellsI14 : Tryz.prog.cellsOf 3 = 1 := by kernel_rfl
theorem cellsT14 : Tryz.prog.cellsOf 30 = 3 := by kernel_rfl
theorem cellsS14 : Tryz.prog.cellsOf 28 = 1 := by kernel_rfl
theorem bytesP14 : Tryz.prog.bytesOf 27 = 32 := by kernel_rfl
theorem u64_nat14 {n : Int} (h : (Lit.int .u64 n).wf = true) : ∃ k : Nat, n = (k : Int) /\ k < 18446744073709551616 := by
  have hb := bounds_u64 h
  exact ⟨n.toNat, by omega, by omega⟩
section
variable {H : Type} {enc : TypeId × Value -> H} {W : World} {base : Nat} {sp : Nat -> Bool} {held : Bool} {fuel : Nat} {cs : List Value} {d : DataW H} {q : List MemPlace}
theorem pauli_of (h : DataW.trod enc Tryz.prog W base sp held fuel 27 cs = some (d, q)) : ∃ p : P, cs = c4 p /\ Wd p := by
  obtain ⟨y0, y1, y2, y3, n, hx, hl, h0, h1, h2, h3⟩ := Go.Joins.trod_struct4 Tryz.underlying27 h
  rw [cellsP14] at hl
  simp only [cellsI14, cellsU14] at h0 h1 h2 h3
  match cs, hl with
  | [a, b, c, e], _ =>
    simp only [List.drop_zero, List.drop_succ_cons, List.take_succ_cons, List.take_zero] at h0 h1 h2 h3
    obtain ⟨z0, e0, -, -⟩ := DataW.trod_int Tryz.underlying3 h0
    obtain ⟨z1, e1, -, w1⟩ := DataW.trod_int Tryz.underlying25 h1
    obtain ⟨z2, e2, -, w2⟩ := DataW.trod_int Tryz.underlying25 h2
    obtain ⟨z3, e3, -, -⟩ := DataW.trod_int Tryz.underlying3 h3
    cases e0; cases e1; cases e2; cases e3
    obtain ⟨k1, rfl, l1⟩ := u64_nat14 w1
    obtain ⟨k2, rfl, l2⟩ := u64_nat14 w2
    exact ⟨⟨z0, k1, k2, z3⟩, rfl, l1, l2⟩
theorem row_open {v : Value} (h : DataW.trod enc Tryz.prog W 0 (fun _ => true) true fuel 28 [v] = some (d, q)) (hw : ∀ m ∈ d.weights Tryz.prog 28, m <= reachBytes) :
    ∃ (ao : Option Addr) (l : List P) (c : Nat), v = .slice ao l.length c /\ PIn W ao l /\ Wl l /\ l.length <= c /\ l.length <= 4398046511104 := by
  rcases Go.Deep.open_slice Tryz.underlying28 h with ⟨hcs, hx⟩ | ⟨a, len, cap, m, n', D, Pl, hcs, _, hl, hm, hmm, hx, hcell⟩
  . cases hcs
    exact ⟨none, [], 0, rfl, .inl rfl, (fun p hp => by cases hp), Nat.le_refl _, Nat.zero_le _⟩
  . cases hcs
    simp only [Prod.mk.injEq] at hx
    simp only [if_true] at hmm
    rw [hmm] at hcell hx
    clear hmm
    rw [hx.1] at hw
    have hlen : len <= 4398046511104 := by
      have h2 := hw _ (by simp only [DataW.weights, Tryz.underlying28]; exact List.mem_cons_self)
      rw [bytesP14, List.length_map, List.length_range] at h2
      have h4 := reachBytes_lt
      omega
    have hone : ∀ i, ∃ p : P, i < len -> (Wd p /\ ∀ j v, (c4 p)[j]? = some v -> W.cell? ((a.add (i * 4)).add j) = some v) := by
      intro i
      by_cases hi : i < len
      . obtain ⟨cs', h1, h2⟩ := hcell i (by omega)
        rw [cellsP14] at h1
        obtain ⟨p, rfl, hp⟩ := pauli_of h2
        refine ⟨p, fun _ => ⟨hp, fun j v hv => ?_⟩⟩
        unfold World.cells? at h1
        rw [if_pos (Nat.zero_le _)] at h1
        have hj : j < 4 := (List.getElem?_eq_some_iff.1 hv).1
        obtain ⟨b, hb1, hb2⟩ := Lib.mapM_at h1 j j (by rw [List.getElem?_range hj])
        rw [hv] at hb1
        cases hb1
        exact hb2
      . exact ⟨oP, fun h => absurd h hi⟩
    obtain ⟨TT, hTT⟩ := Classical.axiomOfChoice hone
    have hll : ((List.range len).map TT).length = len := by simp
    refine ⟨some a, (List.range len).map TT, cap, by rw [hll], ?_, ?_, by rw [hll]; omega, by rw [hll]; exact hlen⟩
    . by_cases h0 : len = 0
      . left
        subst h0
        rfl
      . right
        have key : ∃ g off, a = ⟨g, off, none⟩ := by
          have hc0 := (hTT 0 (by omega)).2 0 _ rfl
          obtain ⟨g, off, spot⟩ := a
          have hspot : spot = none := by simpa [Addr.add] using World.cell?_spot hc0
          subst hspot
          exact ⟨g, off, rfl⟩
        obtain ⟨g, off, rfl⟩ := key
        refine ⟨g, off, rfl, fun i p hp => ?_⟩
        rw [List.getElem?_map] at hp
        obtain ⟨j, hj, rfl⟩ := Option.map_eq_some_iff.1 hp
        have hjl : i < len := by have := (List.getElem?_eq_some_iff.1 hj).1; simpa using this
        rw [List.getElem?_range hjl] at hj
        cases hj
        have hc := (hTT i hjl).2
        have hadd : ∀ j, (((⟨g, off, none⟩ : Addr).add (i * 4)).add j) = ⟨g, off + i * 4 + j, none⟩ := fun j => by rw [Addr.add_lit, Addr.add_lit]
        have c0 := hc 0 _ rfl
        have c1 := hc 1 _ rfl
        have c2 := hc 2 _ rfl
        have c3 := hc 3 _ rfl
        rw [hadd] at c0 c1 c2 c3
        exact ⟨c0, c1, c2, c3⟩
    . intro p hp
      obtain ⟨i, hi, rfl⟩ := List.mem_map.1 hp
      exact (hTT i (List.mem_range.1 hi)).1
theorem tab_open {v : Value} {p : List MemPlace} (hval : Value.okWide Tryz.prog W .any base 30 v)
    (h : DataW.Trod enc Tryz.prog W 0 (fun _ => true) true 30 v d p) (hw : ∀ n ∈ d.weights Tryz.prog 30, n <= reachBytes) :
    ∃ (t : TT) (a b : Option Addr) (ca cb : Nat), v = tV t a b ca cb /\ Th W t a b ca cb /\ t.s.length <= 4398046511104 /\ t.d.length <= 4398046511104 := by
  obtain ⟨cs, rfl, _⟩ := okWide_struct Tryz.underlying30 hval
  obtain ⟨fuel, hf⟩ := h
  obtain ⟨y0, y1, y2, n, hx, hl, h0, h1, h2⟩ := Go.Deep.trod_struct3 Tryz.underlying30 hf
  rw [cellsT14] at hl
  simp only [cellsI14, cellsS14] at h0 h1 h2
  obtain ⟨y1, p1⟩ := y1
  obtain ⟨y2, p2⟩ := y2
  have hd : d = .agg [y0.1, y1, y2] := congrArg Prod.fst hx
  have hc : (Value.agg cs).cells.toList = cs.toList := rfl
  rw [hc] at h0 h1 h2 hl
  have hw1 : ∀ m ∈ y1.weights Tryz.prog 28, m <= reachBytes := fun m hm => hw m (by
    rw [hd]
    simp only [DataW.weights, Tryz.underlying30]
    exact DataW.weights_mem_each (j := 1) (t := 28) (d := y1) rfl rfl m hm)
  have hw2 : ∀ m ∈ y2.weights Tryz.prog 28, m <= reachBytes := fun m hm => hw m (by
    rw [hd]
    simp only [DataW.weights, Tryz.underlying30]
    exact DataW.weights_mem_each (j := 2) (t := 28) (d := y2) rfl rfl m hm)
  clear hx hd hw hf
  obtain ⟨l⟩ := cs
  simp only at h0 h1 h2 hl
  match l, hl with
  | [a, b, c], _ =>
    simp only [List.drop_zero, List.drop_succ_cons, List.take_succ_cons, List.take_zero] at h0 h1 h2
    obtain ⟨z0, k0, -⟩ := int_of Tryz.underlying3 (d := y0.1) (q := y0.2) h0
    cases k0
    obtain ⟨ao, l1, ca, rfl, i1, w1, e1, m1⟩ := row_open h1 hw1
    obtain ⟨bo, l2, cb, rfl, i2, w2, e2, m2⟩ := row_open h2 hw2
    exact ⟨⟨z0, l1, l2⟩, ao, bo, ca, cb, rfl, ⟨i1, i2, w1, w2, e1, e2, by show l1.length <= _; omega, by show l2.length <= _; omega⟩, m1, m2⟩
end
theorem pau_open {H : Type} {enc : TypeId × Value -> H} {W : World} {base : Nat} {v : Value} {d : DataW H} {p : List MemPlace} (hval : Value.okWide Tryz.prog W .any base 27 v)
    (h : DataW.Trod enc Tryz.prog W 0 (fun _ => true) true 27 v d p) : ∃ q : P, v = pV q /\ Wd q := by
  obtain ⟨cs, rfl, _⟩ := okWide_struct Tryz.underlying27 hval
  obtain ⟨fuel, hf⟩ := h
  obtain ⟨q, hq, hw⟩ := pauli_of hf
  have hc : cs.toList = c4 q := hq
  refine ⟨q, ?_, hw⟩
  have : cs = (c4 q).toArray := by apply Array.ext'; rw [hc]
  rw [this]
  rfl
end Go.Proofs.YtoickolhekhgmaaGreatDoor.Tbl
namespace Go.Proofs.YtoickolhekhgmaaGreatDoor.Cir
open Go.ChangeShapes Go.WideShapes Go.ChangeAt Go.RowKit Go.Shelf Go.Proofs.YtoickolhekhgmaaGreatDoor.Tok Go.Proofs.YtoickolhekhgmaaGreatDoor.Gt
open Go.Proofs.YtoickolhekhgmaaGreatDoor.Pau (int_of)
theorem cellsI8 : Tryz.prog.cellsOf 3 = 1 := by kernel_rfl
section
variable {H : Type} {enc : TypeId × Value -> H} {W : World} {base : Nat} {fuel : Nat} {cs : List Value} {d : DataW H} {q : List MemPlace}
theorem cellsOp : Tryz.prog.cellsOf 48 = 6 := by kernel_rfl
theorem cellsCi : Tryz.prog.cellsOf 24 = 3 := by kernel_rfl
theorem cellsOk : Tryz.prog.cellsOf 44 = 1 := by kernel_rfl
theorem cellsGk : Tryz.prog.cellsOf 45 = 1 := by kernel_rfl
theorem cellsSi : Tryz.prog.cellsOf 46 = 1 := by kernel_rfl
theorem cellsSo : Tryz.prog.cellsOf 22 = 1 := by kernel_rfl
theorem bytesI8 : Tryz.prog.bytesOf 3 = 8 := by kernel_rfl
theorem bytesOp : Tryz.prog.bytesOf 48 = 64 := by kernel_rfl
theorem weights_all {P : Program} {e : TypeId} : ∀ (l : List (DataW H)) (d : DataW H), d ∈ l -> ∀ n ∈ d.weights P e, n ∈ DataW.weightsAll P e l
  | [], _, h, _, _ => by cases h
  | a :: r, d, h, n, hn => by
    rw [DataW.weightsAll]
    rcases List.mem_cons.1 h with rfl | h
    . exact List.mem_append_left _ hn
    . exact List.mem_append_right _ (weights_all r d h n hn)
theorem ints_of (h : DataW.trod enc Tryz.prog W 0 (fun _ => true) true fuel 46 cs = some (d, q)) : ∃ ao c us, cs = [.slice ao us.length c] /\ Ns W ao us /\ us.length <= c /\ ((∀ n ∈ d.weights Tryz.prog 46, n <= reachBytes) -> us.length <= 17592186044416) := by
  rcases open_ints Tryz.underlying46 Tryz.underlying3 cellsI8 h with ⟨hcs, hx⟩ | ⟨a, len', cap', zs, hcs, _, hl, hm, hz, hx, hcell, hwz⟩
  . exact ⟨none, 0, [], hcs, .inl rfl, Nat.le_refl _, fun _ => Nat.zero_le _⟩
  . simp only [Prod.mk.injEq] at hx
    simp only [if_true] at hz
    have hlen : (zs.take len').length = len' := by simp; omega
    refine ⟨some a, cap', zs.take len', by rw [hlen]; exact hcs, ?_, by omega, fun hw => ?_⟩
    . by_cases h0 : len' = 0
      . left
        exact List.eq_nil_of_length_eq_zero (by rw [hlen]; exact h0)
      . right
        obtain ⟨g, off, rfl, hc⟩ := ints_at hcell (by omega)
        refine ⟨g, off, rfl, fun j b hj => ?_⟩
        have hjl : j < len' := by have := (List.getElem?_eq_some_iff.1 hj).1; rw [hlen] at this; exact this
        have h1 := hc j (by omega)
        rw [h1]
        simp only [List.getElem?_take, hjl, if_true] at hj
        have e1 : zs.getD j 0 = b := by simp [List.getD, hj]
        rw [e1]
    . rw [hx.1] at hw
      have h2 := hw _ (by simp only [DataW.weights, Tryz.underlying46]; exact List.mem_cons_self)
      rw [bytesI8] at h2
      have h3 : (lits IntKind.i64 (zs.take len') : List (DataW H)).length = len' := by simp [lits]; omega
      rw [h3] at h2
      have h4 := reachBytes_lt
      omega
theorem op_of (h : DataW.trod enc Tryz.prog W 0 (fun _ => true) true fuel 48 cs = some (d, q)) : ∃ (o : COp) (aq : Option Addr) (cq : Nat), cs = [.int .i64 o.kind, .int .i64 o.gate, .slice aq o.qs.length cq, .int .i64 o.bit, .int .i64 o.cond, .int .i64 o.whn] /\ Ns W aq o.qs /\ o.qs.length <= cq /\ ((∀ n ∈ d.weights Tryz.prog 48, n <= reachBytes) -> o.qs.length <= 17592186044416) := by
  obtain ⟨xs, n, _, hx, hl, hlen, hf⟩ := DataW.trod_struct Tryz.underlying48 h
  rw [cellsOp] at hl
  match xs, hlen with
  | [y0, y1, y2, y3, y4, y5], _ =>
    obtain ⟨y0, p0⟩ := y0
    obtain ⟨y1, p1⟩ := y1
    obtain ⟨y2, p2⟩ := y2
    obtain ⟨y3, p3⟩ := y3
    obtain ⟨y4, p4⟩ := y4
    obtain ⟨y5, p5⟩ := y5
    simp only [List.map_cons, List.map_nil, Prod.mk.injEq] at hx
    have h0 : DataW.trod enc Tryz.prog W 0 (fun _ => true) true n 44 ((cs.drop 0).take (Tryz.prog.cellsOf 44)) = some (y0, p0) := hf 0 _ rfl
    have h1 : DataW.trod enc Tryz.prog W 0 (fun _ => true) true n 45 ((cs.drop 1).take (Tryz.prog.cellsOf 45)) = some (y1, p1) := hf 1 _ rfl
    have h2 : DataW.trod enc Tryz.prog W 0 (fun _ => true) true n 46 ((cs.drop 2).take (Tryz.prog.cellsOf 46)) = some (y2, p2) := hf 2 _ rfl
    have h3 : DataW.trod enc Tryz.prog W 0 (fun _ => true) true n 3 ((cs.drop 3).take (Tryz.prog.cellsOf 3)) = some (y3, p3) := hf 3 _ rfl
    have h4 : DataW.trod enc Tryz.prog W 0 (fun _ => true) true n 3 ((cs.drop 4).take (Tryz.prog.cellsOf 3)) = some (y4, p4) := hf 4 _ rfl
    have h5 : DataW.trod enc Tryz.prog W 0 (fun _ => true) true n 3 ((cs.drop 5).take (Tryz.prog.cellsOf 3)) = some (y5, p5) := hf 5 _ rfl
    rw [cellsOk] at h0
    rw [cellsGk] at h1
    rw [cellsSi] at h2
    rw [cellsI8] at h3 h4 h5
    clear hf h
    match cs, hl with
    | [x0, x1, x2, x3, x4, x5], _ =>
      simp only [List.drop_zero, List.drop_succ_cons, List.take_succ_cons, List.take_zero] at h0 h1 h2 h3 h4 h5
      obtain ⟨z0, k0, -⟩ := int_of Tryz.underlying44 h0
      obtain ⟨z1, k1, -⟩ := int_of Tryz.underlying45 h1
      obtain ⟨aq, cq, us, k2, hn, hr, hw⟩ := ints_of h2
      obtain ⟨z3, k3, -⟩ := int_of Tryz.underlying3 h3
      obtain ⟨z4, k4, -⟩ := int_of Tryz.underlying3 h4
      obtain ⟨z5, k5, -⟩ := int_of Tryz.underlying3 h5
      cases k0; cases k1; cases k2; cases k3; cases k4; cases k5
      refine ⟨⟨z0, z1, us, z3, z4, z5⟩, aq, cq, rfl, hn, hr, fun hh => hw fun m hm => hh m ?_⟩
      rw [hx.1]
      simp only [DataW.weights, Tryz.underlying48]
      exact DataW.weights_mem_each (j := 2) (t := 46) (d := y2) rfl rfl m hm
theorem circ_openS {v : Value} {p : List MemPlace} (hval : Value.okWide Tryz.prog W .any base 24 v)
    (h : DataW.Trod enc Tryz.prog W 0 (fun _ => true) true 24 v d p) (hw : ∀ n ∈ d.weights Tryz.prog 24, n <= reachBytes) :
    ∃ (c : Circ) (ao : Option Addr) (k : Nat), v = cV c ao k /\ Ci W c ao k /\ c.ops.length <= 2199023255552 /\ ∀ o ∈ c.ops, o.qs.length <= 17592186044416 := by
  obtain ⟨cs, rfl, _⟩ := okWide_struct Tryz.underlying24 hval
  obtain ⟨fuel, hf⟩ := h
  obtain ⟨y0, y1, y2, n, hx, hl, h0, h1, h2⟩ := Go.Deep.trod_struct3 Tryz.underlying24 hf
  rw [cellsCi] at hl
  simp only [cellsI8, cellsSo] at h0 h1 h2
  obtain ⟨y2, p2⟩ := y2
  have hd : d = .agg [y0.1, y1.1, y2] := congrArg Prod.fst hx
  have hc : (Value.agg cs).cells.toList = cs.toList := rfl
  rw [hc] at h0 h1 h2 hl
  have hw2 : ∀ m ∈ y2.weights Tryz.prog 22, m <= reachBytes := fun m hm => hw m (by
    rw [hd]
    simp only [DataW.weights, Tryz.underlying24]
    exact DataW.weights_mem_each (j := 2) (t := 22) (d := y2) rfl rfl m hm)
  clear hx hd hw hf
  obtain ⟨l⟩ := cs
  simp only at h0 h1 h2 hl
  match l, hl with
  | [a, b, c], _ =>
    simp only [List.drop_zero, List.drop_succ_cons, List.take_succ_cons, List.take_zero] at h0 h1 h2
    obtain ⟨z0, k0, -⟩ := int_of Tryz.underlying3 (d := y0.1) (q := y0.2) h0
    obtain ⟨z1, k1, -⟩ := int_of Tryz.underlying3 (d := y1.1) (q := y1.2) h1
    cases k0; cases k1
    rcases Go.Deep.open_slice Tryz.underlying22 h2 with ⟨hcs, hx⟩ | ⟨a, len, cap, m, n', D, Pl, hcs, _, hl, hm, hmm, hx, hcell⟩
    . cases hcs
      exact ⟨⟨z0, z1, []⟩, none, 0, rfl, ⟨.inl rfl, Nat.le_refl _, Nat.zero_le _, fun o ho => by cases ho⟩, Nat.zero_le _, fun o ho => by cases ho⟩
    . cases hcs
      simp only [Prod.mk.injEq] at hx
      simp only [if_true] at hmm
      rw [hmm] at hcell hx
      clear hmm
      rw [hx.1] at hw2
      have hw3 : (∀ e ∈ (List.range len).map D, ∀ x ∈ e.weights Tryz.prog 48, x <= reachBytes) /\ len <= 2199023255552 := by
        constructor
        . intro e he x hxx
          refine hw2 x ?_
          simp only [DataW.weights, Tryz.underlying22]
          exact List.mem_cons_of_mem _ (List.mem_append_left _ (weights_all _ e he x hxx))
        . have h2 := hw2 _ (by simp only [DataW.weights, Tryz.underlying22]; exact List.mem_cons_self)
          rw [bytesOp, List.length_map, List.length_range] at h2
          have h4 := reachBytes_lt
          omega
      have hone : ∀ i, ∃ t : COp, i < len -> (∃ aq cq, Ns W aq t.qs /\ t.qs.length <= cq /\ t.qs.length <= 17592186044416 /\ ∀ j v, [Value.int .i64 t.kind, .int .i64 t.gate, .slice aq t.qs.length cq, .int .i64 t.bit, .int .i64 t.cond, .int .i64 t.whn][j]? = some v -> W.cell? ((a.add (i * 6)).add j) = some v) := by
        intro i
        by_cases hi : i < len
        . obtain ⟨cs', h1, h2⟩ := hcell i (by omega)
          rw [cellsOp] at h1
          obtain ⟨o, aq, cq, rfl, hn, hr, hq⟩ := op_of h2
          refine ⟨o, fun _ => ⟨aq, cq, hn, hr, hq (hw3.1 _ (List.mem_map.2 ⟨i, List.mem_range.2 hi, rfl⟩)), fun j v hv => ?_⟩⟩
          unfold World.cells? at h1
          rw [if_pos (Nat.zero_le _)] at h1
          have hj : j < 6 := (List.getElem?_eq_some_iff.1 hv).1
          obtain ⟨b, hb1, hb2⟩ := Lib.mapM_at h1 j j (by rw [List.getElem?_range hj])
          rw [hv] at hb1
          cases hb1
          exact hb2
        . exact ⟨⟨0, 0, [], 0, 0, 0⟩, fun h => absurd h hi⟩
      obtain ⟨TT, hTT⟩ := Classical.axiomOfChoice hone
      have hll : ((List.range len).map TT).length = len := by simp
      have hat : ∀ (i : Nat) o, ((List.range len).map TT)[i]? = some o -> i < len /\ o = TT i := fun i o ho => by
        rw [List.getElem?_map] at ho
        obtain ⟨j, hj, rfl⟩ := Option.map_eq_some_iff.1 ho
        have hjl : i < len := by have := (List.getElem?_eq_some_iff.1 hj).1; simpa using this
        rw [List.getElem?_range hjl] at hj
        cases hj
        exact ⟨hjl, rfl⟩
      have hq : ∀ o ∈ (List.range len).map TT, o.qs.length <= 17592186044416 := fun o ho => by
        obtain ⟨i, hi, rfl⟩ := List.mem_map.1 ho
        obtain ⟨_, _, _, _, hq, _⟩ := hTT i (List.mem_range.1 hi)
        exact hq
      have hlen := hw3.2
      refine ⟨⟨z0, z1, (List.range len).map TT⟩, some a, cap, by unfold cV; simp only [hll], ⟨?_, by simp only [hll]; exact hl, by simp only [hll]; omega, fun o ho => Nat.le_trans (hq o ho) (by decide)⟩, by simp only [hll]; exact hlen, hq⟩
      . by_cases hz : len = 0
        . left
          exact List.eq_nil_of_length_eq_zero (by rw [hll]; exact hz)
        . right
          obtain ⟨aq, cq, _, _, _, hc0⟩ := hTT 0 (by omega)
          have hc0 := hc0 0 _ rfl
          obtain ⟨g, off, spot⟩ := a
          have hspot : spot = none := by simpa [Addr.add] using World.cell?_spot hc0
          subst hspot
          refine ⟨g, off, rfl, fun i o ho => ?_⟩
          obtain ⟨hi, rfl⟩ := hat i o ho
          obtain ⟨aq, cq, hn, hr, _, hc⟩ := hTT i hi
          have key : ∀ (j : Nat) (v : Value), [Value.int .i64 (TT i).kind, .int .i64 (TT i).gate, .slice aq (TT i).qs.length cq, .int .i64 (TT i).bit, .int .i64 (TT i).cond, .int .i64 (TT i).whn][j]? = some v -> W.cell? ⟨g, off + i * 6 + j, none⟩ = some v := fun j v hv => by
            have := hc j v hv
            rw [Addr.add_lit, Addr.add_lit] at this
            exact this
          exact ⟨aq, cq, key 0 _ rfl, key 1 _ rfl, key 2 _ rfl, key 3 _ rfl, key 4 _ rfl, key 5 _ rfl, hr, hn⟩
end
end Go.Proofs.YtoickolhekhgmaaGreatDoor.Cir
