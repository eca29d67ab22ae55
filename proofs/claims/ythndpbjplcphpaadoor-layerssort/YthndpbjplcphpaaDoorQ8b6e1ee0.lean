/- LayersSort answers true for every circuit and every row of qubits: package layers' Moments, Sorted and Prune answer as the document's do, what they make is the caller's own, and the circuit that was handed in stays; heads holds. -/
import Derived.Test.YthndpbjplcphpaaDoorQ03539434
import Derived.Test.YthndpbjplcphpaaDoorQ42d96af1
set_option maxRecDepth 100000
namespace Go.Proofs.YthndpbjplcphpaaDoor.Cir
open Go.ChangeShapes Go.WideShapes Go.ChangeAt Go.RowKit Go.Shelf Go.Proofs.YthndpbjplcphpaaDoor.Gt
namespace layersSort
theorem readable : ∀ t ∈ Tryd.f4.params.toList, Tryd.prog.readableRec t = true /\ t < Tryd.prog.types.size := by
  rw [Tryd.params4]
  intro t ht
  simp at ht
  rcases ht with rfl | rfl <;> exact ⟨by kernel_rfl, of_decide_eq_true (by kernel_rfl)⟩
theorem contract (H : Type) (enc : TypeId × Value -> H) (W : World) (base : Nat) (args : Array Value) (ds gs : List (DataW H)) (before : List MemPlace)
    (hval : ∀ (j : Nat) t v, Tryd.f4.params[j]? = some t -> args[j]? = some v -> Value.okWide Tryd.prog W .any base t v)
    (hW : DataW.Whole enc Tryd.prog Tryd.f4.params.toList Rows.layersSortSpec.vars false W args.toList ds gs before) 
    (hsz : (DataW.weightsEach Tryd.prog (Tryd.f4.params.toList ++ (OpenSpec.ofChange Rows.layersSortSpec).bare.plain.varTypes Tryd.prog) (ds ++ gs)).all (· <= reachBytes) = true) (hL : laidMetH Tryd.prog Rows.layersSortRow.laid W) :
    Calls Tryd.prog 4 args W fun e W' => ∃ v, e = .returned v /\ Rows.layersSortSpec.post enc Tryd.prog Tryd.f4 false true false false W args v W' := by
  have hT : Tb W := ti_of hL
  have hW0 := hW
  obtain ⟨p, q, hA, hV, rfl, _, _⟩ := hW
  obtain ⟨rfl, rfl⟩ := trodVars_none hV
  have hA' : DataW.TrodAll enc Tryd.prog W 0 (fun _ => true) true Tryd.f4.params.toList args.toList ds p := hA
  rw [Tryd.params4] at hA' hval
  have hfin : ∀ dd : List (DataW H), ds = dd -> (Rows.layersSortSpec.fn H dd).results = [.lit (.bool true)] /\ (Rows.layersSortSpec.fn H dd).args = dd /\ (Rows.layersSortSpec.fn H dd).vars = [] -> ∀ W', Below W.heap.size W W' -> Rows.layersSortSpec.post enc Tryd.prog Tryd.f4 false true false false W args (.bool true) W' := by
    rintro dd rfl hs W' hb
    exact law_post (enc := enc) Tryd.f4 Rows.layersSortSpec 4 laidOut rfl readable (by kernel_rfl) Tryd.underlying4 hW0 hs hb
  obtain ⟨v0, v1, d0, d1, p0, p1, rfl, rfl, rfl, h0, h1⟩ := trodAll_two hA'
  have hwalk : Calls Tryd.prog 4 #[v0, v1] W fun e W' => e = .returned (.bool true) /\ Below W.heap.size W W' := by
    have hwt : ∀ (i : Nat) (t : TypeId) (d : DataW H), Tryd.f4.params.toList[i]? = some t -> [d0, d1][i]? = some d -> ∀ n ∈ d.weights Tryd.prog t, n <= reachBytes := fun i t d hi hd n hn => by
      have := List.all_eq_true.1 hsz n (DataW.weights_mem_each (j := i) (t := t) (d := d) (by rw [List.getElem?_append_left (List.getElem?_eq_some_iff.1 hi).1]; exact hi) (by rw [List.getElem?_append_left (List.getElem?_eq_some_iff.1 hd).1]; exact hd) n hn)
      simpa using this
    rw [Tryd.params4] at hwt
    obtain ⟨c, ao, k, rfl, hC1, hS1⟩ := circ_openS (hval 0 _ v0 rfl rfl) h0 (hwt 0 _ _ rfl rfl)
    obtain ⟨al, cl, l, rfl, hNl, hcl, hll⟩ := ints_openS (hval 1 _ v1 rfl rfl) h1 (hwt 1 _ _ rfl rfl)
    exact Lay.xSort c ao k l al cl hS1 hll W hT hC1 hNl
  refine hwalk.mono ?_
  rintro e W' ⟨rfl, hb⟩
  exact ⟨_, rfl, hfin _ rfl ⟨rfl, rfl, rfl⟩ W' hb⟩
theorem laid_met (os : Os) (args : Array Value) : laidMet Tryd.prog Rows.layersSortRow.laid ((laidWorld os).forCall (fun _ _ => 0) ⟨#[], args, []⟩).memory :=
  laid_met8 os args
theorem reads (os : Os) {H : Type} (enc : TypeId × Value -> H) : ∃ places, DataW.whole enc Tryd.prog ((laidWorld os).forCall (fun _ _ => 0) ⟨#[], #[.agg #[.int .i64 0, .int .i64 0, .slice none 0 0], .slice none 0 0], []⟩).memory Tryd.f4.params.toList Rows.layersSortSpec.vars false #[(.agg #[.int .i64 0, .int .i64 0, .slice none 0 0] : Value), .slice none 0 0].toList 8 = some ([.agg [.lit (.int .i64 0), .lit (.int .i64 0), .nil], .nil], [], places) :=
  ⟨[], by kernel_rfl⟩
theorem lifted (os : Os) (started : os.Started) (H : Type) (enc : TypeId × Value -> H) (F : Stop.Interp) :
    ReturnsInHanded {} Tryd.checked os 4 .any ((OpenSpec.ofChange Rows.layersSortSpec).preRow enc Tryd.prog Tryd.f4 Rows.layersSortRow.domain false Rows.layersSortRow.laid) (((OpenSpec.ofChange Rows.layersSortSpec).at F).post enc Tryd.prog Tryd.f4 false true false false) := by
  obtain ⟨places, hx⟩ := reads os enc
  refine returnsInHanded_of_row (C := Tryd.checked) (s := OpenSpec.ofChange Rows.layersSortSpec) own started (by kernel_rfl) Tryd.func4
    (witness_row_shaped (enc := enc) (C := Tryd.checked) false (laidWorld os) #[.agg #[.int .i64 0, .int .i64 0, .slice none 0 0], .slice none 0 0] (laidWorld_os os) (shaped8 os _) (by kernel_rfl)
      (OpenSpec.preRow_of_cond 8 hx (by kernel_rfl) (fun k hk => by cases hk) (by kernel_rfl) (laid_met os _))) ?_
  intro W base args ds gs before hval hW _ _ hsz hL _ _
  exact contract H enc W base args ds gs before hval hW hsz hL
theorem said : Rows.LayersSortSaid :=
  OpenClaim.holds_of_cond 4 Tryd.f4 rfl rfl rfl rfl rfl rfl rfl ⟨rfl, rfl, rfl, rfl, rfl⟩ rfl rfl rfl rfl rfl (by kernel_rfl) Tryd.func4 (by kernel_rfl)
    (of_decide_eq_true (by kernel_rfl)) (by unfold Func.isWrapper; first | (rw [if_pos (by decide +kernel)]; kernel_rfl) | (rw [if_neg (by decide +kernel)]; exact ⟨rfl, rfl⟩))
    (fun os started H enc _ F => by rw [OpenClaim.pre_eq_preRow]; exact lifted os started H enc F)
theorem plain (f : FuncId) (fn : Func) (hf : Tryd.pinned.checked.prog.funcNamed "phasor/phasorlaw19.LayersSort" = some f) (hfn : Tryd.pinned.checked.prog.funcs[f]? = some fn) :
    false = Tryd.pinned.checked.prog.looks [] /\ ∀ (j : Nat) t, fn.params[j]? = some t -> Tryd.pinned.checked.prog.wantsStandIn t = false := by
  obtain rfl : f = 4 := Option.some.inj ((show Tryd.prog.funcNamed "phasor/phasorlaw19.LayersSort" = some 4 by kernel_rfl).symm.trans hf) |>.symm
  obtain rfl : fn = Tryd.f4 := (Option.some.inj (Tryd.func4.symm.trans hfn)).symm
  refine ⟨by kernel_rfl, fun j t ht => ?_⟩
  rw [Tryd.params4] at ht
  have hm := Array.mem_of_getElem? ht
  simp at hm
  rcases hm with rfl | rfl
  . exact (show Tryd.prog.wantsStandIn 24 = false by kernel_rfl)
  . exact (show Tryd.prog.wantsStandIn 25 = false by kernel_rfl)
end layersSort
end Go.Proofs.YthndpbjplcphpaaDoor.Cir
namespace Go.Proofs.YthndpbjplcphpaaDoor
open Go
theorem LayersSort_card : Rows.LayersSortCardSaid :=
  Claim7.holds_tied_plain_at .later [] _ _ _ _ Cir.layersSort.said (fun _ h => by cases h) (by kernel_rfl) (fun _ h => by cases h) layersSort_row_tie rfl ⟨rfl, rfl⟩ (by kernel_rfl) rfl Cir.layersSort.plain (by kernel_rfl)
end Go.Proofs.YthndpbjplcphpaaDoor
