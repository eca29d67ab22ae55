/- OctetNobody answers true for every piece: on a Writer that is nil and on a Reader that no call made, each call tells ErrNil and nothing else. Condition: the two tables of package unicode/utf8 lie as the library's text lays them (the card ties them to the program's text). -/
import Derived.Test.YtckcdgobgpjdkabDoorNob
import Derived.Test.YtckcdgobgpjdkabDoorFrame
namespace Go.Proofs.YtckcdgobgpjdkabDoor.Oct
open Go.ChangeShapes Go.WideShapes Go.ChangeAt Go.RowKit Go.Lib Go.Shelf

/-- A piece's value shows its five parts. -/
theorem piece_form {W : World} {base : Nat} {v : Value} (h : Value.okWide Tryd.prog W .any base 26 v) : ∃ k n f g s, v = .agg #[.int .i64 k, .int .u64 n, .float .f64 f, .float .f32 g, .string s] := by
  unfold Value.okWide at h
  rw [Tryd.underlying26] at h
  obtain ⟨cs, rfl, hsz, ts, hts, _, hcell⟩ := h
  have e1 : Tryd.prog.cellTypes Tryd.prog.depth 26 = some [3, 22, 23, 24, 9] := by kernel_rfl
  have e2 : Tryd.prog.cellsOf 26 = 5 := by kernel_rfl
  rw [e1] at hts
  cases hts
  rw [e2] at hsz
  obtain ⟨l⟩ := cs
  match l, hsz with
  | [a, b, c, d, e], _ =>
    obtain ⟨u0, q0, h0⟩ := hcell 0 a rfl
    obtain ⟨u1, q1, h1⟩ := hcell 1 b rfl
    obtain ⟨u2, q2, h2⟩ := hcell 2 c rfl
    obtain ⟨u3, q3, h3⟩ := hcell 3 d rfl
    obtain ⟨u4, q4, h4⟩ := hcell 4 e rfl
    simp at q0 q1 q2 q3 q4
    subst q0 q1 q2 q3 q4
    have v0 : Value.okWide Tryd.prog W .any base 3 a := by unfold Value.okWide; rw [Tryd.underlying3]; exact h0
    have v1 : Value.okWide Tryd.prog W .any base 22 b := by unfold Value.okWide; rw [Tryd.underlying22]; exact h1
    have v2 : Value.okWide Tryd.prog W .any base 23 c := by unfold Value.okWide; rw [Tryd.underlying23]; exact h2
    have v3 : Value.okWide Tryd.prog W .any base 24 d := by unfold Value.okWide; rw [Tryd.underlying24]; exact h3
    have v4 : Value.okWide Tryd.prog W .any base 9 e := by unfold Value.okWide; rw [Tryd.underlying9]; exact h4
    obtain ⟨k, rfl⟩ := okWide_int Tryd.underlying3 v0
    obtain ⟨n, rfl⟩ := okWide_int Tryd.underlying22 v1
    obtain ⟨f, rfl⟩ := okWide_float Tryd.underlying23 v2
    obtain ⟨g, rfl⟩ := okWide_float Tryd.underlying24 v3
    obtain ⟨s, rfl⟩ := okWide_string Tryd.underlying9 v4
    exact ⟨k, n, f, g, s, rfl⟩

namespace octetNobody
theorem contract (H : Type) (enc : TypeId × Value → H) (W : World) (base : Nat) (args : Array Value) (ds gs : List (DataW H)) (before : List MemPlace)
    (hval : ∀ (j : Nat) t v, Tryd.f3.params[j]? = some t → args[j]? = some v → Value.okWide Tryd.prog W .any base t v)
    (hW : DataW.Whole enc Tryd.prog Tryd.f3.params.toList Rows.octetNobodySpec.vars false W args.toList ds gs before) (hL : laidMetH Tryd.prog Rows.octetNobodyRow.laid W) :
    Calls Tryd.prog 3 args W fun e W' => ∃ v, e = .returned v ∧ Rows.octetNobodySpec.post enc Tryd.prog Tryd.f3 false true false false W args v W' := by
  have hT : Tabs W := tabs_of (first_same ▸ Lib.laidMet.reads hL (.tail _ (.head _))) (accept_same ▸ Lib.laidMet.reads hL (.head _))
  have hW0 := hW
  obtain ⟨p, q, hA, hV, rfl, _, _⟩ := hW
  have hA' : DataW.TrodAll enc Tryd.prog W 0 (fun _ => true) true Tryd.f3.params.toList args.toList ds p := hA
  rw [Tryd.params3] at hA' hval
  obtain ⟨v0, d0, rfl, rfl, h0⟩ := trodAll_one hA'
  obtain ⟨k, n, f, g, s, rfl⟩ := piece_form (hval 0 _ v0 rfl rfl)
  refine (nobodyLaw_any k n f g s W hT).mono ?_
  rintro e W' ⟨rfl, hb⟩
  exact ⟨_, rfl, law_post (enc := enc) Tryd.f3 Rows.octetNobodySpec 4 laidOut rfl (by rw [Tryd.params3]; intro t ht; simp at ht; subst ht; exact ⟨by kernel_rfl, of_decide_eq_true (by kernel_rfl)⟩) (by kernel_rfl) Tryd.underlying4 hW0 ⟨rfl, rfl, rfl⟩ hb⟩

theorem laid_met (os : Os) (args : Array Value) : laidMet Tryd.prog Rows.octetNobodyRow.laid ((laidWorld os).forCall (fun _ _ => 0) ⟨#[], args, []⟩).memory :=
  (LaidIn.of_run (l := Rows.octetNobodyRow.laid) [2, 1] 8 (by kernel_rfl) (by kernel_rfl) (by kernel_rfl) (by kernel_rfl)).met
theorem reads (os : Os) {H : Type} (enc : TypeId × Value → H) : ∃ places, DataW.whole enc Tryd.prog ((laidWorld os).forCall (fun _ _ => 0) ⟨#[], #[.agg #[.int .i64 0, .int .u64 0, .float .f64 0, .float .f32 0, .string ⟨#[]⟩]], []⟩).memory Tryd.f3.params.toList Rows.octetNobodySpec.vars false #[Value.agg #[.int .i64 0, .int .u64 0, .float .f64 0, .float .f32 0, .string ⟨#[]⟩]].toList 8 = some ([.agg [.lit (.int .i64 0), .lit (.int .u64 0), .lit (.float .f64 0), .lit (.float .f32 0), .lit (.string [])]], [], places) :=
  ⟨[], by kernel_rfl⟩

set_option maxRecDepth 100000 in
theorem lifted (os : Os) (started : os.Started) (H : Type) (enc : TypeId × Value → H) (F : Stop.Interp) :
    ReturnsInHanded {} Tryd.checked os 3 .any ((OpenSpec.ofChange Rows.octetNobodySpec).preRow enc Tryd.prog Tryd.f3 Rows.octetNobodyRow.domain false Rows.octetNobodyRow.laid) (((OpenSpec.ofChange Rows.octetNobodySpec).at F).post enc Tryd.prog Tryd.f3 false true false false) := by
  obtain ⟨places, hx⟩ := reads os enc
  refine returnsInHanded_of_row (C := Tryd.checked) (s := OpenSpec.ofChange Rows.octetNobodySpec) own started (by kernel_rfl) Tryd.func3
    (witness_row_at (enc := enc) (C := Tryd.checked) false (laidWorld os) #[.agg #[.int .i64 0, .int .u64 0, .float .f64 0, .float .f32 0, .string ⟨#[]⟩]] rfl (by kernel_rfl) (by kernel_rfl) (by kernel_rfl)
      (OpenSpec.preRow_of_cond 8 hx (by kernel_rfl) (fun k hk => by cases hk) (by kernel_rfl) (laid_met os _))) ?_
  intro W base args ds gs before hval hW _ _ _ hL _ _
  exact contract H enc W base args ds gs before hval hW hL
theorem said : Rows.OctetNobodySaid :=
  OpenClaim.holds_of_cond 3 Tryd.f3 rfl rfl rfl rfl rfl rfl rfl ⟨rfl, rfl, rfl, rfl, rfl⟩ rfl rfl rfl rfl rfl (by kernel_rfl) Tryd.func3 (by kernel_rfl)
    (of_decide_eq_true (by kernel_rfl)) (by unfold Func.isWrapper; first | (rw [if_pos (by decide +kernel)]; kernel_rfl) | (rw [if_neg (by decide +kernel)]; exact ⟨rfl, rfl⟩))
    (fun os started H enc _ F => by rw [OpenClaim.pre_eq_preRow]; exact lifted os started H enc F)
/-- No parameter wants a stand-in; the program's own looks are off. -/
theorem plain (f : FuncId) (fn : Func) (hf : Tryd.pinned.checked.prog.funcNamed "phasor/phasorlaw01.OctetNobody" = some f) (hfn : Tryd.pinned.checked.prog.funcs[f]? = some fn) :
    false = Tryd.pinned.checked.prog.looks [] ∧ ∀ (j : Nat) t, fn.params[j]? = some t → Tryd.pinned.checked.prog.wantsStandIn t = false := by
  obtain rfl : f = 3 := Option.some.inj ((show Tryd.prog.funcNamed "phasor/phasorlaw01.OctetNobody" = some 3 by kernel_rfl).symm.trans hf) |>.symm
  obtain rfl : fn = Tryd.f3 := (Option.some.inj (Tryd.func3.symm.trans hfn)).symm
  refine ⟨by kernel_rfl, fun j t ht => ?_⟩
  rw [Tryd.params3] at ht
  obtain rfl : t = 26 := by simpa using Array.mem_of_getElem? ht
  exact (show Tryd.prog.wantsStandIn 26 = false by kernel_rfl)
end octetNobody
end Go.Proofs.YtckcdgobgpjdkabDoor.Oct
namespace Go.Proofs.YtckcdgobgpjdkabDoor
open Go
/-- The card. -/
theorem OctetNobody_card : Rows.OctetNobodyCardSaid :=
  Claim7.holds_tied_plain_at .later [] _ _ _ _ Oct.octetNobody.said (fun _ h => by cases h) (by kernel_rfl) (fun _ h => by cases h) octetNobody_row_tie rfl ⟨rfl, rfl⟩ (by kernel_rfl) rfl Oct.octetNobody.plain (by kernel_rfl)
end Go.Proofs.YtckcdgobgpjdkabDoor
