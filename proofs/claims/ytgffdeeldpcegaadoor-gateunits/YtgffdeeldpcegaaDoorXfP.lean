/- GateUnits answers true for every kind: each matrix times its inverse kind's is the unit matrix, the inverse's entries are the conjugates, and Moves answers the columns of the monomial kinds. Condition: the two listed variables lie as the program's text lays them (the card ties them to the text). -/
import Derived.Test.YtgffdeeldpcegaaDoorXf
import Derived.Test.YtgffdeeldpcegaaDoorFr6
namespace Go.Proofs.YtgffdeeldpcegaaDoor.Gt
open Go.ChangeShapes Go.WideShapes Go.ChangeAt Go.RowKit
namespace gateUnits
theorem readable : ∀ t ∈ Tryd.f6.params.toList, Tryd.prog.readableRec t = true ∧ t < Tryd.prog.types.size := by
  rw [Tryd.params6]
  intro t ht
  simp at ht
  rcases ht with rfl <;> exact ⟨by kernel_rfl, of_decide_eq_true (by kernel_rfl)⟩
set_option maxRecDepth 100000 in
theorem contract (H : Type) (enc : TypeId × Value → H) (W : World) (base : Nat) (args : Array Value) (ds gs : List (DataW H)) (before : List MemPlace)
    (hval : ∀ (j : Nat) t v, Tryd.f6.params[j]? = some t → args[j]? = some v → Value.okWide Tryd.prog W .any base t v)
    (hW : DataW.Whole enc Tryd.prog Tryd.f6.params.toList Rows.gateUnitsSpec.vars false W args.toList ds gs before) 
    (hsz : (DataW.weightsEach Tryd.prog (Tryd.f6.params.toList ++ (OpenSpec.ofChange Rows.gateUnitsSpec).bare.plain.varTypes Tryd.prog) (ds ++ gs)).all (· ≤ reachBytes) = true) (hL : laidMetH Tryd.prog Rows.gateUnitsRow.laid W) :
    Calls Tryd.prog 6 args W fun e W' => ∃ v, e = .returned v ∧ Rows.gateUnitsSpec.post enc Tryd.prog Tryd.f6 false true false false W args v W' := by
  have hT : Tb W ∧ Td W := tg_of (plain8 hL)
  have hW0 := hW
  obtain ⟨p, q, hA, hV, rfl, _, _⟩ := hW
  obtain ⟨rfl, rfl⟩ := trodVars_none hV
  have hA' : DataW.TrodAll enc Tryd.prog W 0 (fun _ => true) true Tryd.f6.params.toList args.toList ds p := hA
  rw [Tryd.params6] at hA' hval
  have hfin : ∀ dd : List (DataW H), ds = dd → (Rows.gateUnitsSpec.fn H dd).results = [.lit (.bool true)] ∧ (Rows.gateUnitsSpec.fn H dd).args = dd ∧ (Rows.gateUnitsSpec.fn H dd).vars = [] → ∀ W', Below W.heap.size W W' → Rows.gateUnitsSpec.post enc Tryd.prog Tryd.f6 false true false false W args (.bool true) W' := by
    rintro dd rfl hs W' hb
    exact law_post (enc := enc) Tryd.f6 Rows.gateUnitsSpec 4 laidOut rfl readable (by kernel_rfl) Tryd.underlying4 hW0 hs hb
  obtain ⟨v0, d0, rfl, rfl, h0⟩ := trodAll_one hA'
  have hwalk : Calls Tryd.prog 6 #[v0] W fun e W' => e = .returned (.bool true) ∧ Below W.heap.size W W' := by
    obtain ⟨x0, rfl, rfl, rfl, k0⟩ := open_int Tryd.underlying24 (hval 0 _ v0 rfl rfl) h0
    exact xGateUnits x0 W hT.1 hT.2
  refine hwalk.mono ?_
  rintro e W' ⟨rfl, hb⟩
  exact ⟨_, rfl, hfin _ rfl ⟨rfl, rfl, rfl⟩ W' hb⟩
theorem laid_met (os : Os) (args : Array Value) : laidMet Tryd.prog Rows.gateUnitsRow.laid ((laidWorld os).forCall (fun _ _ => 0) ⟨#[], args, []⟩).memory :=
  laid_met8 os args
theorem reads (os : Os) {H : Type} (enc : TypeId × Value → H) : ∃ places, DataW.whole enc Tryd.prog ((laidWorld os).forCall (fun _ _ => 0) ⟨#[], #[.int .i64 1], []⟩).memory Tryd.f6.params.toList Rows.gateUnitsSpec.vars false #[(.int .i64 1 : Value)].toList 8 = some ([.lit (.int .i64 1)], [], places) :=
  ⟨[], by kernel_rfl⟩

set_option maxRecDepth 100000 in
theorem lifted (os : Os) (started : os.Started) (H : Type) (enc : TypeId × Value → H) (F : Stop.Interp) :
    ReturnsInHanded {} Tryd.checked os 6 .any ((OpenSpec.ofChange Rows.gateUnitsSpec).preRow enc Tryd.prog Tryd.f6 Rows.gateUnitsRow.domain false Rows.gateUnitsRow.laid) (((OpenSpec.ofChange Rows.gateUnitsSpec).at F).post enc Tryd.prog Tryd.f6 false true false false) := by
  obtain ⟨places, hx⟩ := reads os enc
  refine returnsInHanded_of_row (C := Tryd.checked) (s := OpenSpec.ofChange Rows.gateUnitsSpec) own started (by kernel_rfl) Tryd.func6
    (witness_row_shaped (enc := enc) (C := Tryd.checked) false (laidWorld os) #[.int .i64 1] (laidWorld_os os) (shaped8 os _) (by kernel_rfl)
      (OpenSpec.preRow_of_cond 8 hx (by kernel_rfl) (fun k hk => by cases hk) (by kernel_rfl) (laid_met os _))) ?_
  intro W base args ds gs before hval hW _ _ hsz hL _ _
  exact contract H enc W base args ds gs before hval hW hsz hL
theorem said : Rows.GateUnitsSaid :=
  OpenClaim.holds_of_cond 6 Tryd.f6 rfl rfl rfl rfl rfl rfl rfl ⟨rfl, rfl, rfl, rfl, rfl⟩ rfl rfl rfl rfl rfl (by kernel_rfl) Tryd.func6 (by kernel_rfl)
    (of_decide_eq_true (by kernel_rfl)) (by unfold Func.isWrapper; first | (rw [if_pos (by decide +kernel)]; kernel_rfl) | (rw [if_neg (by decide +kernel)]; exact ⟨rfl, rfl⟩))
    (fun os started H enc _ F => by rw [OpenClaim.pre_eq_preRow]; exact lifted os started H enc F)
/-- No parameter wants a stand-in; the program's own looks are off. -/
theorem plain (f : FuncId) (fn : Func) (hf : Tryd.pinned.checked.prog.funcNamed "phasor/phasorlaw06.GateUnits" = some f) (hfn : Tryd.pinned.checked.prog.funcs[f]? = some fn) :
    false = Tryd.pinned.checked.prog.looks [] ∧ ∀ (j : Nat) t, fn.params[j]? = some t → Tryd.pinned.checked.prog.wantsStandIn t = false := by
  obtain rfl : f = 6 := Option.some.inj ((show Tryd.prog.funcNamed "phasor/phasorlaw06.GateUnits" = some 6 by kernel_rfl).symm.trans hf) |>.symm
  obtain rfl : fn = Tryd.f6 := (Option.some.inj (Tryd.func6.symm.trans hfn)).symm
  refine ⟨by kernel_rfl, fun j t ht => ?_⟩
  rw [Tryd.params6] at ht
  have hm := Array.mem_of_getElem? ht
  simp at hm
  rcases hm with rfl
  · exact (show Tryd.prog.wantsStandIn 24 = false by kernel_rfl)
end gateUnits
end Go.Proofs.YtgffdeeldpcegaaDoor.Gt
namespace Go.Proofs.YtgffdeeldpcegaaDoor
open Go
/-- The card. -/
theorem GateUnits_card : Rows.GateUnitsCardSaid :=
  Claim7.holds_tied_plain_at .later [] _ _ _ _ Gt.gateUnits.said (fun _ h => by cases h) (by kernel_rfl) (fun _ h => by cases h) gateUnits_row_tie rfl ⟨rfl, rfl⟩ (by kernel_rfl) rfl Gt.gateUnits.plain (by kernel_rfl)
end Go.Proofs.YtgffdeeldpcegaaDoor
