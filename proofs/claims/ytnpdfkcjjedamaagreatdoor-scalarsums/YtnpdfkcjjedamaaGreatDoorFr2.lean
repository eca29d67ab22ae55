/- The frame of a law's proof: what is the same for every law that leaves its arguments alone. -/
import Derived.Test.YtnpdfkcjjedamaaGreatDoorCards
import Derived.Test.YtnpdfkcjjedamaaGreatDoorTie
import Derived.Test.YtnpdfkcjjedamaaGreatDoorAl
import Derived.WalkKit
import Derived.ProofKit
import Derived.OpenShut
import Derived.Lib.LaidIn
import Derived.Lib.LaidU8
import Derived.Lay
import Derived.Deep.DeepHandedRow
import Derived.Deep.DeepWitnessRowRef
import Derived.SizedLaws
import Derived.WalkLawsBesides
namespace Go.Proofs.YtnpdfkcjjedamaaGreatDoor.Sca
open Go.ChangeShapes Go.WideShapes Go.ChangeAt Go.RowKit Go.Lib Go.Shelf

theorem own : ownKnob Tryz.prog.godebug = none := by kernel_rfl
theorem laidOut : laidOutB Tryz.prog = true := by kernel_rfl

section
variable {H : Type} {enc : TypeId × Value → H} {P : Program}
theorem trodAll_below (hl : laidOutB P = true) {W W' : World} (hb : Below W.heap.size W W') : ∀ (ts : List TypeId) (vs : List Value) (ds : List (DataW H)) (ps : List MemPlace), (∀ t ∈ ts, P.readableRec t = true ∧ t < P.types.size) →
    DataW.TrodAll enc P W 0 (fun _ => true) true ts vs ds ps → (∀ x ∈ ps, x.block < W.heap.size) → DataW.TrodAll enc P W' 0 (fun b => decide (b < W.heap.size)) true ts vs ds ps
  | [], vs, ds, ps, _, h, _ => by
    obtain ⟨rfl, rfl, rfl⟩ := trodAll_nil h
    exact trodAll_mk0
  | t :: ts, vs, ds, ps, hr, h, hlt => by
    obtain ⟨v, vs', d, ds', p, q, rfl, rfl, rfl, h0, h1⟩ := trodAll_cons h
    exact trodAll_cons_mk (Below.trod hl (hr t (by simp)).1 (hr t (by simp)).2 h0 hb (fun x hx => hlt x (by simp [hx]))) (trodAll_below hl hb ts vs' ds' q (fun t ht => hr t (by simp [ht])) h1 (fun x hx => hlt x (by simp [hx])))
/-- A law that answered true and turned no old memory meets its specification. -/
theorem law_post (f : Func) (s : ChangeSpec) (tb : TypeId) (hl : laidOutB P = true) (hvars : s.vars = []) (hread : ∀ t ∈ f.params.toList, P.readableRec t = true ∧ t < P.types.size) (hres : f.resultTypes = #[tb]) (htb : P.underlying tb = some .bool)
    {W W' : World} {args : Array Value} {ds gs : List (DataW H)} {before : List MemPlace} (hW : DataW.Whole enc P f.params.toList s.vars false W args.toList ds gs before)
    (hs : (s.fn H ds).results = [.lit (.bool true)] ∧ (s.fn H ds).args = ds ∧ (s.fn H ds).vars = []) (hb : Below W.heap.size W W') : s.post enc P f false true false false W args (.bool true) W' := by
  have hW' := hW
  obtain ⟨p, q, hA, hV, rfl, h5, h6⟩ := hW
  rw [hvars] at hV
  obtain ⟨rfl, rfl⟩ := trodVars_none hV
  refine ⟨ds, [], p ++ [], [], p, [], hW', ?_, ?_, ?_, hb.frame _, fun h => by cases h⟩
  · rw [List.append_nil, hs.1, hres]
    exact trodAll_mk1 (shut_bool htb _)
  · rw [List.append_nil, hs.2.1]
    exact trodAll_below hl hb _ _ _ _ hread hA (fun x hx => hW'.lt x (by simp [hx]))
  · rw [List.append_nil, hs.2.2, hvars]
    rfl
end

/-- What a listed variable holds. -/
theorem var_at {W : World} {n : String} {g : Nat} {cs : Array Value} (hg : Tryz.prog.globalNamed n = some g) (hv : W.var? Tryz.prog n = some cs) (i : Nat) {v : Value} (h : cs[i]? = some v) : W.cell? ⟨g, i, none⟩ = some v := by
  have := World.var?_cell hg hv i
  rw [h] at this
  exact this
theorem tz_of {W : World} (h : Lib.VarReads Tryz.prog W "math/bits.deBruijn64tab" (Lib.tabData .u8 (Lib.deBruijn64tab.map (fun (x : Nat) => (x : Int))))) : Tz W := by
  obtain ⟨g, t, cs, fuel, p, h1, h2, h3, h4⟩ := h
  obtain rfl := Option.some.inj ((show Tryz.prog.globalNamed "math/bits.deBruijn64tab" = some 1 by kernel_rfl).symm.trans h1)
  obtain rfl := Option.some.inj ((show (Tryz.prog.globals[1]?).map (·.type) = some 92 by kernel_rfl).symm.trans h2)
  have hcs := Lib.cells_of_tab Tryz.underlying92 Tryz.underlying5 (by kernel_rfl) (by kernel_rfl) h4
  intro j hj
  refine var_at h1 h3 j ?_
  rw [← Array.getElem?_toList, hcs]
  simp [List.getElem?_map, List.getD, List.getElem?_eq_getElem hj]
theorem t10_of {W : World} (h : Lib.VarReads Tryz.prog W "internal/strconv.uint64pow10" (Lib.tabData .u64 Lib.pow10Tab)) : T10 W := by
  obtain ⟨g, t, cs, fuel, p, h1, h2, h3, h4⟩ := h
  obtain rfl := Option.some.inj ((show Tryz.prog.globalNamed "internal/strconv.uint64pow10" = some 6 by kernel_rfl).symm.trans h1)
  obtain rfl := Option.some.inj ((show (Tryz.prog.globals[6]?).map (·.type) = some 148 by kernel_rfl).symm.trans h2)
  unfold T10 Lib.TabIs
  rw [h3, ← Lib.cells_of_tab Tryz.underlying148 Tryz.underlying29 (by kernel_rfl) (by kernel_rfl) h4]
theorem opt_of {W : World} (h : Lib.VarReads Tryz.prog W "internal/strconv.optimize" (.lit (.bool true))) : W.cell? ⟨2, 0, none⟩ = some (.bool true) := by
  obtain ⟨g, t, cs, fuel, p, h1, h2, h3, h4⟩ := h
  obtain rfl := Option.some.inj ((show Tryz.prog.globalNamed "internal/strconv.optimize" = some 2 by kernel_rfl).symm.trans h1)
  obtain rfl := Option.some.inj ((show (Tryz.prog.globals[2]?).map (·.type) = some 4 by kernel_rfl).symm.trans h2)
  refine var_at h1 h3 0 ?_
  rw [← Array.getElem?_toList]
  generalize cs.toList = l at *
  cases fuel with
  | zero => simp [DataW.trod] at h4
  | succ fuel =>
    simp only [DataW.trod, Tryz.underlying4] at h4
    split at h4 <;> simp_all
/-- An error that is laid. -/
theorem err_of {W : World} {n : String} {g : Nat} {nm : String} {d : DataW Unit} (hg : Tryz.prog.globalNamed n = some g) (hty : (Tryz.prog.globals[g]?).map (·.type) = some 86) (h : Lib.VarReads Tryz.prog W n (.iface nm d)) :
    ∃ ev, W.cell? ⟨g, 0, none⟩ = some ev ∧ (ev = .nilIface ∨ ∃ te pe, ev = .iface te pe) := by
  obtain ⟨g', t, cs, fuel, p, h1, h2, h3, h4⟩ := h
  obtain rfl := Option.some.inj (hg.symm.trans h1)
  obtain rfl := Option.some.inj (hty.symm.trans h2)
  have : ∃ te pe, cs.toList = [.iface te pe] := by
    generalize cs.toList = l at *
    cases fuel with
    | zero => simp [DataW.trod] at h4
    | succ fuel =>
      simp only [DataW.trod, Tryz.underlying86] at h4
      split at h4 <;> first | (rename_i e; cases e; done) | simp_all
  obtain ⟨te, pe, e⟩ := this
  exact ⟨.iface te pe, var_at h1 h3 0 (by rw [← Array.getElem?_toList, e]; rfl), .inr ⟨te, pe, rfl⟩⟩
set_option maxRecDepth 100000 in
/-- The row of powers, where it is read. -/
theorem pow_of {W : World} (h : Lib.VarReads Tryz.prog W "internal/strconv.pow10Tab" Go.Pinned.pow10Tab) :
    W.cell? ⟨7, 702, none⟩ = some (.int .u64 18014398509481984000) ∧ W.cell? ⟨7, 703, none⟩ = some (.int .u64 0) := by
  obtain ⟨g, t, cs, fuel, p, h1, h2, h3, h4⟩ := h
  obtain rfl := Option.some.inj ((show Tryz.prog.globalNamed "internal/strconv.pow10Tab" = some 7 by kernel_rfl).symm.trans h1)
  obtain rfl := Option.some.inj ((show (Tryz.prog.globals[7]?).map (·.type) = some 164 by kernel_rfl).symm.trans h2)
  have hc : Tryz.prog.cellsOf 163 = 2 := by kernel_rfl
  obtain ⟨fuel', d, q, hd, ht⟩ := Lib.array_elem Tryz.underlying164 h4 351 (by decide)
  rw [hc] at ht
  have hrow : (Go.Pinned.pow10Rows.map fun x => (DataW.agg [.lit (.int .u64 x.1), .lit (.int .u64 x.2)] : DataW Unit))[351]? = some (.agg ([(18014398509481984000 : Int), 0].map fun z => .lit (.int .u64 z))) := by kernel_rfl
  have hd' : d = .agg ([(18014398509481984000 : Int), 0].map fun z => .lit (.int .u64 z)) := Option.some.inj (hd.symm.trans hrow)
  subst hd'
  have hs := Lib.ints_of_struct Tryz.underlying163 (fun i f hf => by
    have : i = 0 ∨ i = 1 ∨ 2 ≤ i := by omega
    rcases this with rfl | rfl | hi
    · simp at hf; subst hf; exact ⟨Tryz.underlying29, rfl, by kernel_rfl⟩
    · simp at hf; subst hf; exact ⟨Tryz.underlying29, rfl, by kernel_rfl⟩
    · rw [Array.getElem?_eq_none (by simp; omega)] at hf; cases hf) (by rw [hc]; rfl) ht
  have e0 : ((cs.toList.drop (351 * 2)).take 2)[0]? = some (.int .u64 18014398509481984000) := by rw [hs]; rfl
  have e1 : ((cs.toList.drop (351 * 2)).take 2)[1]? = some (.int .u64 0) := by rw [hs]; rfl
  rw [List.getElem?_take, if_pos (by decide), List.getElem?_drop] at e0 e1
  exact ⟨var_at h1 h3 702 (by rw [← Array.getElem?_toList]; exact e0), var_at h1 h3 703 (by rw [← Array.getElem?_toList]; exact e1)⟩
theorem bru_same : (Rows.laid_math_bits_deBruijn64tab : DataW Unit) = Lib.tabData .u8 (Lib.deBruijn64tab.map (fun (x : Nat) => (x : Int))) := by kernel_rfl
theorem ten_same : (Rows.laid_internal_strconv_uint64pow10 : DataW Unit) = Lib.tabData .u64 Lib.pow10Tab := by kernel_rfl
/-- The eight variables, as every row here lists them. -/
abbrev laid8 : List (String × DataW Unit) := Rows.scalarSumsRow.laid
theorem tb_of {W : World} (h : laidMet Tryz.prog laid8 W) : Tb W := by
  have hd := Lib.laidMet.reads h (.tail _ (.head _))
  have ho := Lib.laidMet.reads h (.tail _ (.tail _ (.head _)))
  have ht := Lib.laidMet.reads h (.tail _ (.tail _ (.tail _ (.head _))))
  have hr := Lib.laidMet.reads h (.tail _ (.tail _ (.tail _ (.tail _ (.head _)))))
  have hs := Lib.laidMet.reads h (.tail _ (.tail _ (.tail _ (.tail _ (.tail _ (.head _))))))
  have hp := Lib.laidMet.reads h (.tail _ (.tail _ (.tail _ (.tail _ (.tail _ (.tail _ (.tail _ (.head _))))))))
  have h10 := t10_of (ten_same ▸ ht)
  obtain ⟨p1, p2⟩ := pow_of hp
  have hgn : Tryz.prog.globalNamed "internal/strconv.uint64pow10" = some 6 := by kernel_rfl
  exact ⟨tz_of (bru_same ▸ hd), ⟨p1, p2, opt_of ho, Lib.TabIs.cell h10 hgn 1 (by decide), Lib.TabIs.cell h10 hgn 3 (by decide)⟩, h10,
    ⟨err_of (by kernel_rfl) (by kernel_rfl) hs, err_of (by kernel_rfl) (by kernel_rfl) hr⟩⟩
/-- A world for the witness: the settled one, every listed variable laid. -/
noncomputable def laidWorld (os : Os) : World := World.laidAll Tryz.prog os laid8
theorem laidWorld_os (os : Os) : (laidWorld os).os = os := World.laidAll_os _ _ _
theorem laid_met8 (os : Os) (args : Array Value) : laidMet Tryz.prog laid8 ((laidWorld os).forCall (fun _ _ => 0) ⟨#[], args, []⟩).memory :=
  laidMet_laidAll args (by kernel_rfl) (by kernel_rfl)
theorem plain8 {W : World} (h : laidMetH Tryz.prog laid8 W) : laidMet Tryz.prog laid8 W := by
  have e : (laid8.filter fun x => x.2.handleName?.isSome) = [] := by kernel_rfl
  unfold laidMetH at h
  rw [e] at h
  exact h
theorem shaped8 (os : Os) (args : Array Value) : ((laidWorld os).forCall (fun _ _ => 0) ⟨#[], args, []⟩).Shaped Tryz.prog := World.shaped_of_ZipB (by kernel_rfl) (by kernel_rfl)
/-- An input that fits, at a world whose shape is known. -/
theorem witness_row_shaped {H : Type} {enc : TypeId × Value → H} {C : Checked} {os : Os} {f : FuncId} {fn : Func} {s : OpenSpec} {conds : List PathCond} {apart : Bool} {laid : List (String × DataW Unit)} (modest : Bool) (w0 : World) (args : Array Value) (hos : w0.os = os)
    (hsh : (w0.forCall (fun _ _ => 0) ⟨#[], args, []⟩).Shaped C.prog) (hok : Input.okWideB C.prog (w0.forCall (fun _ _ => 0) ⟨#[], args, []⟩) f ⟨#[], args, []⟩ = true)
    (hrow : s.preRow enc C.prog fn conds apart laid (w0.forCall (fun _ _ => 0) ⟨#[], args, []⟩).memory args) :
    ∃ (w : World) (tape : Tape) (i : Input), w.os = os ∧ (w.forCall tape i).Shaped C.prog ∧ i.vars = [] ∧ Input.okWide C.prog (w.forCall tape i) .any w.heap.size f i ∧
      s.preRow enc C.prog fn conds apart laid (w.forCall tape i).memory i.args ∧ ({ modest := modest } : Assume).holds C.prog (lone (Frame.enter C.prog f i.args .normal) [] (w.forCall tape i)) :=
  ⟨w0, fun _ _ => 0, ⟨#[], args, []⟩, hos, hsh, (Input.okWide_of_okWideB (base := 0) hok).1, (Input.okWide_of_okWideB hok).2, hrow, by
    simp only [Assume.holds]
    exact ⟨by simp, by simp, fun _ => Modest.zero, by simp, by simp⟩⟩
end Go.Proofs.YtnpdfkcjjedamaaGreatDoor.Sca
