/- RouteMetric: distances of any map are the same both ways, none is greater than by a third place, and neighbours, these alone, are one apart. -/
import Derived.Test.YtipceoeihiaieaaDoorDo20
import Derived.Test.YtipceoeihiaieaaDoorCk20
import Derived.Test.YtipceoeihiaieaaDoorFrN20
namespace Go.Proofs.YtipceoeihiaieaaDoor.Nob
open Go.ChangeShapes Go.WideShapes Go.ChangeAt Go.RowKit Go.Shelf Go.Proofs.YtipceoeihiaieaaDoor.Ev
namespace routeMetric
theorem readable : ∀ t ∈ Tryd.f3.params.toList, Tryd.prog.readableRec t = true ∧ t < Tryd.prog.types.size := by
  rw [Tryd.params3]
  intro t ht
  simp at ht
  rcases ht with rfl | rfl <;> exact ⟨by kernel_rfl, of_decide_eq_true (by kernel_rfl)⟩
set_option maxRecDepth 100000 in
theorem contract (H : Type) (enc : TypeId × Value → H) (W : World) (base : Nat) (args : Array Value) (ds gs : List (DataW H)) (before : List MemPlace)
    (hval : ∀ (j : Nat) t v, Tryd.f3.params[j]? = some t → args[j]? = some v → Value.okWide Tryd.prog W .any base t v)
    (hW : DataW.Whole enc Tryd.prog Tryd.f3.params.toList Rows.routeMetricSpec.vars false W args.toList ds gs before) 
    (hsz : (DataW.weightsEach Tryd.prog (Tryd.f3.params.toList ++ (OpenSpec.ofChange Rows.routeMetricSpec).bare.plain.varTypes Tryd.prog) (ds ++ gs)).all (· ≤ reachBytes) = true) (hL : laidMetH Tryd.prog Rows.routeMetricRow.laid W) :
    Calls Tryd.prog 3 args W fun e W' => ∃ v, e = .returned v ∧ Rows.routeMetricSpec.post enc Tryd.prog Tryd.f3 false true false false W args v W' := by
  have hT := plain8 hL
  have hW0 := hW
  obtain ⟨p, q, hA, hV, rfl, _, _⟩ := hW
  obtain ⟨rfl, rfl⟩ := trodVars_none hV
  have hA' : DataW.TrodAll enc Tryd.prog W 0 (fun _ => true) true Tryd.f3.params.toList args.toList ds p := hA
  rw [Tryd.params3] at hA' hval
  have hfin : ∀ dd : List (DataW H), ds = dd → (Rows.routeMetricSpec.fn H dd).results = [.lit (.bool true)] ∧ (Rows.routeMetricSpec.fn H dd).args = dd ∧ (Rows.routeMetricSpec.fn H dd).vars = [] → ∀ W', Below W.heap.size W W' → Rows.routeMetricSpec.post enc Tryd.prog Tryd.f3 false true false false W args (.bool true) W' := by
    rintro dd rfl hs W' hb
    exact law_post (enc := enc) Tryd.f3 Rows.routeMetricSpec 4 laidOut rfl readable (by kernel_rfl) Tryd.underlying4 hW0 hs hb
  obtain ⟨v0, v1, v2, v3, d0, d1, d2, d3, p0, p1, p2, p3, rfl, rfl, rfl, h0, h1, h2, h3⟩ := trodAll_four hA'
  have hwalk : Calls Tryd.prog 3 #[v0, v1, v2, v3] W fun e W' => e = .returned (.bool true) ∧ Below W.heap.size W W' := by
    obtain ⟨N, ps, ao, k, rfl, hPA, hpl⟩ := Rou.map_open (hval 0 _ v0 rfl rfl) h0 (fun n hn => by simpa using List.all_eq_true.1 hsz n (DataW.weights_mem_each (j := 0) (t := 24) (d := d0) (by rw [Tryd.params3]; rfl) rfl n hn))
    obtain ⟨y, rfl, rfl, rfl, k1⟩ := open_int Tryd.underlying3 (hval 1 _ v1 rfl rfl) h1
    obtain ⟨x, rfl, rfl, rfl, k2⟩ := open_int Tryd.underlying3 (hval 2 _ v2 rfl rfl) h2
    obtain ⟨u, rfl, rfl, rfl, k3⟩ := open_int Tryd.underlying3 (hval 3 _ v3 rfl rfl) h3
    have hGT : Rou.GT W := cells_of_reads (P := Tryd.prog) (vs := lv0) (t := (Tryd.prog.globals[0]?.map (·.type)).getD 0) 8 (Lib.laidMet.reads hT (n := "phasor/gate.table") (d := Rows.laid_phasor_gate_table) (.head _)) (by kernel_rfl) (by kernel_rfl) (by kernel_rfl)
    exact Rou.xRouteMetric N ps ao k y x u hpl W hPA hGT
  refine hwalk.mono ?_
  rintro e W' ⟨rfl, hb⟩
  exact ⟨_, rfl, hfin _ rfl ⟨rfl, rfl, rfl⟩ W' hb⟩
theorem laid_met (os : Os) (args : Array Value) : laidMet Tryd.prog Rows.routeMetricRow.laid ((laidWorld os).forCall (fun _ _ => 0) ⟨#[], args, []⟩).memory :=
  laid_met8 os args
theorem reads (os : Os) {H : Type} (enc : TypeId × Value → H) : ∃ places, DataW.whole enc Tryd.prog ((laidWorld os).forCall (fun _ _ => 0) ⟨#[], #[.agg #[.int .i64 0, .slice none 0 0], .int .i64 0, .int .i64 0, .int .i64 0], []⟩).memory Tryd.f3.params.toList Rows.routeMetricSpec.vars false #[(.agg #[.int .i64 0, .slice none 0 0] : Value), .int .i64 0, .int .i64 0, .int .i64 0].toList 8 = some ([.agg [.lit (.int .i64 0), .nil], .lit (.int .i64 0), .lit (.int .i64 0), .lit (.int .i64 0)], [], places) :=
  ⟨[], by kernel_rfl⟩

set_option maxRecDepth 100000 in
theorem lifted (os : Os) (started : os.Started) (H : Type) (enc : TypeId × Value → H) (F : Stop.Interp) :
    ReturnsInHanded {} Tryd.checked os 3 .any ((OpenSpec.ofChange Rows.routeMetricSpec).preRow enc Tryd.prog Tryd.f3 Rows.routeMetricRow.domain false Rows.routeMetricRow.laid) (((OpenSpec.ofChange Rows.routeMetricSpec).at F).post enc Tryd.prog Tryd.f3 false true false false) := by
  obtain ⟨places, hx⟩ := reads os enc
  refine returnsInHanded_of_row (C := Tryd.checked) (s := OpenSpec.ofChange Rows.routeMetricSpec) own started (by kernel_rfl) Tryd.func3
    (witness_row_shaped (enc := enc) (C := Tryd.checked) false (laidWorld os) #[.agg #[.int .i64 0, .slice none 0 0], .int .i64 0, .int .i64 0, .int .i64 0] (laidWorld_os os) (shaped8 os _) (by kernel_rfl)
      (OpenSpec.preRow_of_cond 8 hx (by kernel_rfl) (fun k hk => by cases hk) (by kernel_rfl) (laid_met os _))) ?_
  intro W base args ds gs before hval hW _ _ hsz hL _ _
  exact contract H enc W base args ds gs before hval hW hsz hL
theorem said : Rows.RouteMetricSaid :=
  OpenClaim.holds_of_cond 3 Tryd.f3 rfl rfl rfl rfl rfl rfl rfl ⟨rfl, rfl, rfl, rfl, rfl⟩ rfl rfl rfl rfl rfl (by kernel_rfl) Tryd.func3 (by kernel_rfl)
    (of_decide_eq_true (by kernel_rfl)) (by unfold Func.isWrapper; first | (rw [if_pos (by decide +kernel)]; kernel_rfl) | (rw [if_neg (by decide +kernel)]; exact ⟨rfl, rfl⟩))
    (fun os started H enc _ F => by rw [OpenClaim.pre_eq_preRow]; exact lifted os started H enc F)
/-- No parameter wants a stand-in; the program's own looks are off. -/
theorem plain (f : FuncId) (fn : Func) (hf : Tryd.pinned.checked.prog.funcNamed "phasor/phasorlaw20.RouteMetric" = some f) (hfn : Tryd.pinned.checked.prog.funcs[f]? = some fn) :
    false = Tryd.pinned.checked.prog.looks [] ∧ ∀ (j : Nat) t, fn.params[j]? = some t → Tryd.pinned.checked.prog.wantsStandIn t = false := by
  obtain rfl : f = 3 := Option.some.inj ((show Tryd.prog.funcNamed "phasor/phasorlaw20.RouteMetric" = some 3 by kernel_rfl).symm.trans hf) |>.symm
  obtain rfl : fn = Tryd.f3 := (Option.some.inj (Tryd.func3.symm.trans hfn)).symm
  refine ⟨by kernel_rfl, fun j t ht => ?_⟩
  rw [Tryd.params3] at ht
  have hm := Array.mem_of_getElem? ht
  simp at hm
  rcases hm with rfl | rfl
  · exact (show Tryd.prog.wantsStandIn 24 = false by kernel_rfl)
  · exact (show Tryd.prog.wantsStandIn 3 = false by kernel_rfl)
end routeMetric
end Go.Proofs.YtipceoeihiaieaaDoor.Nob
namespace Go.Proofs.YtipceoeihiaieaaDoor
open Go
/-- The card. -/
theorem RouteMetric_card : Rows.RouteMetricCardSaid :=
  Claim7.holds_tied_plain_at .later [] _ _ _ _ Nob.routeMetric.said (fun _ h => by cases h) (by kernel_rfl) (fun _ h => by cases h) routeMetric_row_tie rfl ⟨rfl, rfl⟩ (by kernel_rfl) rfl Nob.routeMetric.plain (by kernel_rfl)
end Go.Proofs.YtipceoeihiaieaaDoor
