/- LayersOrder answers true for every circuit: of package layers' own answers Early is nowhere behind Late, what touches has unlike moments, in order, and Sorted keeps the Depth; of a circuit that may not be the document says so, too; the set-up answers as it should. Condition: gate's table lies as the program's text lays it (the card ties it to the text). -/
import Derived.Test.YthndpbjplcphpaaDoorL449ff3d7
import Derived.Test.YthndpbjplcphpaaDoorL2964d6cb
set_option maxRecDepth 100000
namespace Go.Proofs.YthndpbjplcphpaaDoor.Cir
open Go.ChangeShapes Go.WideShapes Go.ChangeAt Go.RowKit Go.Shelf Go.Proofs.YthndpbjplcphpaaDoor.Gt
namespace layersOrder
theorem readable : ∀ t ∈ Tryd.f5.params.toList, Tryd.prog.readableRec t = true /\ t < Tryd.prog.types.size := by
  rw [Tryd.params5]
  intro t ht
  simp at ht
  rcases ht with rfl <;> exact ⟨by kernel_rfl, of_decide_eq_true (by kernel_rfl)⟩
theorem contract (H : Type) (enc : TypeId × Value -> H) (W : World) (base : Nat) (args : Array Value) (ds gs : List (DataW H)) (before : List MemPlace)
    (hval : ∀ (j : Nat) t v, Tryd.f5.params[j]? = some t -> args[j]? = some v -> Value.okWide Tryd.prog W .any base t v)
    (hW : DataW.Whole enc Tryd.prog Tryd.f5.params.toList Rows.layersOrderSpec.vars false W args.toList ds gs before) 
    (hsz : (DataW.weightsEach Tryd.prog (Tryd.f5.params.toList ++ (OpenSpec.ofChange Rows.layersOrderSpec).bare.plain.varTypes Tryd.prog) (ds ++ gs)).all (· <= reachBytes) = true) (hL : laidMetH Tryd.prog Rows.layersOrderRow.laid W) :
    Calls Tryd.prog 5 args W fun e W' => ∃ v, e = .returned v /\ Rows.layersOrderSpec.post enc Tryd.prog Tryd.f5 false true false false W args v W' := by
  have hT : Tb W := ti_of hL
  have hW0 := hW
  obtain ⟨p, q, hA, hV, rfl, _, _⟩ := hW
  obtain ⟨rfl, rfl⟩ := trodVars_none hV
  have hA' : DataW.TrodAll enc Tryd.prog W 0 (fun _ => true) true Tryd.f5.params.toList args.toList ds p := hA
  rw [Tryd.params5] at hA' hval
  have hfin : ∀ dd : List (DataW H), ds = dd -> (Rows.layersOrderSpec.fn H dd).results = [.lit (.bool true)] /\ (Rows.layersOrderSpec.fn H dd).args = dd /\ (Rows.layersOrderSpec.fn H dd).vars = [] -> ∀ W', Below W.heap.size W W' -> Rows.layersOrderSpec.post enc Tryd.prog Tryd.f5 false true false false W args (.bool true) W' := by
    rintro dd rfl hs W' hb
    exact law_post (enc := enc) Tryd.f5 Rows.layersOrderSpec 4 laidOut rfl readable (by kernel_rfl) Tryd.underlying4 hW0 hs hb
  obtain ⟨v0, d0, rfl, rfl, h0⟩ := trodAll_one hA'
  have hwalk : Calls Tryd.prog 5 #[v0] W fun e W' => e = .returned (.bool true) /\ Below W.heap.size W W' := by
    have hwt : ∀ (i : Nat) (t : TypeId) (d : DataW H), Tryd.f5.params.toList[i]? = some t -> [d0][i]? = some d -> ∀ n ∈ d.weights Tryd.prog t, n <= reachBytes := fun i t d hi hd n hn => by
      have := List.all_eq_true.1 hsz n (DataW.weights_mem_each (j := i) (t := t) (d := d) (by rw [List.getElem?_append_left (List.getElem?_eq_some_iff.1 hi).1]; exact hi) (by rw [List.getElem?_append_left (List.getElem?_eq_some_iff.1 hd).1]; exact hd) n hn)
      simpa using this
    rw [Tryd.params5] at hwt
    obtain ⟨c, ao, k, rfl, hC1, -⟩ := circ_openS (hval 0 _ v0 rfl rfl) h0 (hwt 0 _ _ rfl rfl)
    exact Lay.xOrder c ao k W hT hC1
  refine hwalk.mono ?_
  rintro e W' ⟨rfl, hb⟩
  exact ⟨_, rfl, hfin _ rfl ⟨rfl, rfl, rfl⟩ W' hb⟩
theorem laid_met (os : Os) (args : Array Value) : laidMet Tryd.prog Rows.layersOrderRow.laid ((laidWorld os).forCall (fun _ _ => 0) ⟨#[], args, []⟩).memory :=
  laid_met8 os args
theorem reads (os : Os) {H : Type} (enc : TypeId × Value -> H) : ∃ places, DataW.whole enc Tryd.prog ((laidWorld os).forCall (fun _ _ => 0) ⟨#[], #[.agg #[.int .i64 0, .int .i64 0, .slice none 0 0]], []⟩).memory Tryd.f5.params.toList Rows.layersOrderSpec.vars false #[(.agg #[.int .i64 0, .int .i64 0, .slice none 0 0] : Value)].toList 8 = some ([.agg [.lit (.int .i64 0), .lit (.int .i64 0), .nil]], [], places) :=
  ⟨[], by kernel_rfl⟩
theorem lifted (os : Os) (started : os.Started) (H : Type) (enc : TypeId × Value -> H) (F : Stop.Interp) :
    ReturnsInHanded {} Tryd.checked os 5 .any ((OpenSpec.ofChange Rows.layersOrderSpec).preRow enc Tryd.prog Tryd.f5 Rows.layersOrderRow.domain false Rows.layersOrderRow.laid) (((OpenSpec.ofChange Rows.layersOrderSpec).at F).post enc Tryd.prog Tryd.f5 false true false false) := by
  obtain ⟨places, hx⟩ := reads os enc
  refine returnsInHanded_of_row (C := Tryd.checked) (s := OpenSpec.ofChange Rows.layersOrderSpec) own started (by kernel_rfl) Tryd.func5
    (witness_row_shaped (enc := enc) (C := Tryd.checked) false (laidWorld os) #[.agg #[.int .i64 0, .int .i64 0, .slice none 0 0]] (laidWorld_os os) (shaped8 os _) (by kernel_rfl)
      (OpenSpec.preRow_of_cond 8 hx (by kernel_rfl) (fun k hk => by cases hk) (by kernel_rfl) (laid_met os _))) ?_
  intro W base args ds gs before hval hW _ _ hsz hL _ _
  exact contract H enc W base args ds gs before hval hW hsz hL
theorem said : Rows.LayersOrderSaid :=
  OpenClaim.holds_of_cond 5 Tryd.f5 rfl rfl rfl rfl rfl rfl rfl ⟨rfl, rfl, rfl, rfl, rfl⟩ rfl rfl rfl rfl rfl (by kernel_rfl) Tryd.func5 (by kernel_rfl)
    (of_decide_eq_true (by kernel_rfl)) (by unfold Func.isWrapper; first | (rw [if_pos (by decide +kernel)]; kernel_rfl) | (rw [if_neg (by decide +kernel)]; exact ⟨rfl, rfl⟩))
    (fun os started H enc _ F => by rw [OpenClaim.pre_eq_preRow]; exact lifted os started H enc F)
theorem plain (f : FuncId) (fn : Func) (hf : Tryd.pinned.checked.prog.funcNamed "phasor/phasorlaw19.LayersOrder" = some f) (hfn : Tryd.pinned.checked.prog.funcs[f]? = some fn) :
    false = Tryd.pinned.checked.prog.looks [] /\ ∀ (j : Nat) t, fn.params[j]? = some t -> Tryd.pinned.checked.prog.wantsStandIn t = false := by
  obtain rfl : f = 5 := Option.some.inj ((show Tryd.prog.funcNamed "phasor/phasorlaw19.LayersOrder" = some 5 by kernel_rfl).symm.trans hf) |>.symm
  obtain rfl : fn = Tryd.f5 := (Option.some.inj (Tryd.func5.symm.trans hfn)).symm
  refine ⟨by kernel_rfl, fun j t ht => ?_⟩
  rw [Tryd.params5] at ht
  have hm := Array.mem_of_getElem? ht
  simp at hm
  rcases hm with rfl
  . exact (show Tryd.prog.wantsStandIn 24 = false by kernel_rfl)
end layersOrder
end Go.Proofs.YthndpbjplcphpaaDoor.Cir
namespace Go.Proofs.YthndpbjplcphpaaDoor
open Go
theorem LayersOrder_card : Rows.LayersOrderCardSaid :=
  Claim7.holds_tied_plain_at .later [] _ _ _ _ Cir.layersOrder.said (fun _ h => by cases h) (by kernel_rfl) (fun _ h => by cases h) layersOrder_row_tie rfl ⟨rfl, rfl⟩ (by kernel_rfl) rfl Cir.layersOrder.plain (by kernel_rfl)
end Go.Proofs.YthndpbjplcphpaaDoor
