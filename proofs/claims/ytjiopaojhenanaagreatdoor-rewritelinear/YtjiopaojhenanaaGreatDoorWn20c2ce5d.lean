/- RewriteLinear answers true for every circuit and all rows: package rewrite's Linear and Synth and the document's answer the same rows, the same circuit and the same errors, what is handed in stays, and the set-up answers as told. Its conditions: the listed tables of packages gate and rewrite lie as they are laid. -/
import Derived.Test.YtjiopaojhenanaaGreatDoorWn8b05ae68
import Derived.Test.YtjiopaojhenanaaGreatDoorWncf88e940
set_option maxRecDepth 100000
namespace Go.Proofs.YtjiopaojhenanaaGreatDoor.Nob
open Go.ChangeShapes Go.WideShapes Go.ChangeAt Go.RowKit Go.Shelf
theorem tw_of {W : World} (h : laidMet Tryz.prog laid8 W) : Rwt.Tw W :=
  ⟨Ev.cells_of_reads (P := Tryz.prog) (vs := Rwt.lv0) (t := (Tryz.prog.globals[0]?.map (·.type)).getD 0) 8 (Lib.laidMet.reads h (n := "phasor/rewrite.free") (d := Rows.laid_phasor_rewrite_free) (by first | exact .head _ | exact .tail _ (.head _) | exact .tail _ (.tail _ (.head _)))) (by kernel_rfl) (by kernel_rfl) (by kernel_rfl),
   Ev.cells_of_reads (P := Tryz.prog) (vs := Rwt.lv1) (t := (Tryz.prog.globals[1]?.map (·.type)).getD 0) 8 (Lib.laidMet.reads h (n := "phasor/gate.table") (d := Rows.laid_phasor_gate_table) (by first | exact .head _ | exact .tail _ (.head _) | exact .tail _ (.tail _ (.head _)))) (by kernel_rfl) (by kernel_rfl) (by kernel_rfl),
   Ev.cells_of_reads (P := Tryz.prog) (vs := Rwt.lv2) (t := (Tryz.prog.globals[2]?.map (·.type)).getD 0) 8 (Lib.laidMet.reads h (n := "phasor/gate.deeds") (d := Rows.laid_phasor_gate_deeds) (by first | exact .head _ | exact .tail _ (.head _) | exact .tail _ (.tail _ (.head _)))) (by kernel_rfl) (by kernel_rfl) (by kernel_rfl)⟩
namespace rewriteLinear
theorem readable : ∀ t ∈ Tryz.f3.params.toList, Tryz.prog.readableRec t = true /\ t < Tryz.prog.types.size := by
  rw [Tryz.params3]
  intro t ht
  simp at ht
  rcases ht with rfl | rfl <;> exact ⟨by kernel_rfl, of_decide_eq_true (by kernel_rfl)⟩
theorem contract (H : Type) (enc : TypeId × Value -> H) (W : World) (base : Nat) (args : Array Value) (ds gs : List (DataW H)) (before : List MemPlace)
    (hval : ∀ (j : Nat) t v, Tryz.f3.params[j]? = some t -> args[j]? = some v -> Value.okWide Tryz.prog W .any base t v)
    (hW : DataW.Whole enc Tryz.prog Tryz.f3.params.toList Rows.rewriteLinearSpec.vars false W args.toList ds gs before) 
    (hsz : (DataW.weightsEach Tryz.prog (Tryz.f3.params.toList ++ (OpenSpec.ofChange Rows.rewriteLinearSpec).bare.plain.varTypes Tryz.prog) (ds ++ gs)).all (· <= reachBytes) = true) (hL : laidMetH Tryz.prog Rows.rewriteLinearRow.laid W) :
    Calls Tryz.prog 3 args W fun e W' => ∃ v, e = .returned v /\ Rows.rewriteLinearSpec.post enc Tryz.prog Tryz.f3 false true false false W args v W' := by
  have hT := plain8 hL
  have hW0 := hW
  obtain ⟨p, q, hA, hV, rfl, _, _⟩ := hW
  obtain ⟨rfl, rfl⟩ := trodVars_none hV
  have hA' : DataW.TrodAll enc Tryz.prog W 0 (fun _ => true) true Tryz.f3.params.toList args.toList ds p := hA
  rw [Tryz.params3] at hA' hval
  have hfin : ∀ dd : List (DataW H), ds = dd -> (Rows.rewriteLinearSpec.fn H dd).results = [.lit (.bool true)] /\ (Rows.rewriteLinearSpec.fn H dd).args = dd /\ (Rows.rewriteLinearSpec.fn H dd).vars = [] -> ∀ W', Below W.heap.size W W' -> Rows.rewriteLinearSpec.post enc Tryz.prog Tryz.f3 false true false false W args (.bool true) W' := by
    rintro dd rfl hs W' hb
    exact law_post (enc := enc) Tryz.f3 Rows.rewriteLinearSpec 4 laidOut rfl readable (by kernel_rfl) Tryz.underlying4 hW0 hs hb
  obtain ⟨v0, v1, d0, d1, p0, p1, rfl, rfl, rfl, h0, h1⟩ := trodAll_two hA'
  have hwalk : Calls Tryz.prog 3 #[v0, v1] W fun e W' => e = .returned (.bool true) /\ Below W.heap.size W W' := by
    have hwt : ∀ (i : Nat) (t : TypeId) (d : DataW H), Tryz.f3.params.toList[i]? = some t -> [d0, d1][i]? = some d -> ∀ n ∈ d.weights Tryz.prog t, n <= reachBytes := fun i t d hi hd n hn => by
      have := List.all_eq_true.1 hsz n (DataW.weights_mem_each (j := i) (t := t) (d := d) (by rw [List.getElem?_append_left (List.getElem?_eq_some_iff.1 hi).1]; exact hi) (by rw [List.getElem?_append_left (List.getElem?_eq_some_iff.1 hd).1]; exact hd) n hn)
      simpa using this
    rw [Tryz.params3] at hwt
    obtain ⟨c, ao, k, rfl, hC, hz1, hz2⟩ := Cir.circ_openS (hval 0 _ v0 rfl rfl) h0 (hwt 0 _ _ rfl rfl)
    obtain ⟨uo, uk, us, rfl, hU, hr, hl⟩ := Cir.uints_openS (hval 1 _ v1 rfl rfl) h1 (hwt 1 _ _ rfl rfl)
    exact Rwt.xRewriteLinear c ao k uo uk us hr hl W (tw_of hT) hC hU
  refine hwalk.mono ?_
  rintro e W' ⟨rfl, hb⟩
  exact ⟨_, rfl, hfin _ rfl ⟨rfl, rfl, rfl⟩ W' hb⟩
theorem laid_met (os : Os) (args : Array Value) : laidMet Tryz.prog Rows.rewriteLinearRow.laid ((laidWorld os).forCall (fun _ _ => 0) ⟨#[], args, []⟩).memory :=
  laid_met8 os args
theorem reads (os : Os) {H : Type} (enc : TypeId × Value -> H) : ∃ places, DataW.whole enc Tryz.prog ((laidWorld os).forCall (fun _ _ => 0) ⟨#[], #[.agg #[.int .i64 0, .int .i64 0, .slice none 0 0], .slice none 0 0], []⟩).memory Tryz.f3.params.toList Rows.rewriteLinearSpec.vars false #[(.agg #[.int .i64 0, .int .i64 0, .slice none 0 0] : Value), .slice none 0 0].toList 8 = some ([.agg [.lit (.int .i64 0), .lit (.int .i64 0), .nil], .nil], [], places) :=
  ⟨[], by kernel_rfl⟩
theorem lifted (os : Os) (started : os.Started) (H : Type) (enc : TypeId × Value -> H) (F : Stop.Interp) :
    ReturnsInHanded {} Tryz.checked os 3 .any ((OpenSpec.ofChange Rows.rewriteLinearSpec).preRow enc Tryz.prog Tryz.f3 Rows.rewriteLinearRow.domain false Rows.rewriteLinearRow.laid) (((OpenSpec.ofChange Rows.rewriteLinearSpec).at F).post enc Tryz.prog Tryz.f3 false true false false) := by
  obtain ⟨places, hx⟩ := reads os enc
  refine returnsInHanded_of_row (C := Tryz.checked) (s := OpenSpec.ofChange Rows.rewriteLinearSpec) own started (by kernel_rfl) Tryz.func3
    (witness_row_shaped (enc := enc) (C := Tryz.checked) false (laidWorld os) #[.agg #[.int .i64 0, .int .i64 0, .slice none 0 0], .slice none 0 0] (laidWorld_os os) (shaped8 os _) (by kernel_rfl)
      (OpenSpec.preRow_of_cond 8 hx (by kernel_rfl) (fun k hk => by cases hk) (by kernel_rfl) (laid_met os _))) ?_
  intro W base args ds gs before hval hW _ _ hsz hL _ _
  exact contract H enc W base args ds gs before hval hW hsz hL
theorem said : Rows.RewriteLinearSaid :=
  OpenClaim.holds_of_cond 3 Tryz.f3 rfl rfl rfl rfl rfl rfl rfl ⟨rfl, rfl, rfl, rfl, rfl⟩ rfl rfl rfl rfl rfl (by kernel_rfl) Tryz.func3 (by kernel_rfl)
    (of_decide_eq_true (by kernel_rfl)) (by unfold Func.isWrapper; first | (rw [if_pos (by decide +kernel)]; kernel_rfl) | (rw [if_neg (by decide +kernel)]; exact ⟨rfl, rfl⟩))
    (fun os started H enc _ F => by rw [OpenClaim.pre_eq_preRow]; exact lifted os started H enc F)
theorem plain (f : FuncId) (fn : Func) (hf : Tryz.pinned.checked.prog.funcNamed "phasor/phasorlaw18.RewriteLinear" = some f) (hfn : Tryz.pinned.checked.prog.funcs[f]? = some fn) :
    false = Tryz.pinned.checked.prog.looks [] /\ ∀ (j : Nat) t, fn.params[j]? = some t -> Tryz.pinned.checked.prog.wantsStandIn t = false := by
  obtain rfl : f = 3 := Option.some.inj ((show Tryz.prog.funcNamed "phasor/phasorlaw18.RewriteLinear" = some 3 by kernel_rfl).symm.trans hf) |>.symm
  obtain rfl : fn = Tryz.f3 := (Option.some.inj (Tryz.func3.symm.trans hfn)).symm
  refine ⟨by kernel_rfl, fun j t ht => ?_⟩
  rw [Tryz.params3] at ht
  have hm := Array.mem_of_getElem? ht
  simp at hm
  rcases hm with rfl | rfl
  . exact (show Tryz.prog.wantsStandIn 24 = false by kernel_rfl)
  . exact (show Tryz.prog.wantsStandIn 25 = false by kernel_rfl)
end rewriteLinear
end Go.Proofs.YtjiopaojhenanaaGreatDoor.Nob
namespace Go.Proofs.YtjiopaojhenanaaGreatDoor
open Go
theorem RewriteLinear_card : Rows.RewriteLinearCardSaid :=
  Claim7.holds_tied_plain_at .later [] _ _ _ _ Nob.rewriteLinear.said (fun _ h => by cases h) (by kernel_rfl) (fun _ h => by cases h) rewriteLinear_row_tie rfl ⟨rfl, rfl⟩ (by kernel_rfl) rfl Nob.rewriteLinear.plain (by kernel_rfl)
end Go.Proofs.YtjiopaojhenanaaGreatDoor
