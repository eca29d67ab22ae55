/- CircuitJoins answers true for every two circuits, every two rows of numbers and every two numbers: package circuit's Append and Embed and the document's answer the same; what is written over what Append answers turns nothing of what was handed in; the set-up answers as it should. Condition: the eight listed variables lie as the program's text lays them (the card ties them to the text). -/
import Derived.Test.YtkbodljmkhnebabGreatDoorJ5e60b7dd
import Derived.Test.YtkbodljmkhnebabGreatDoorJb6b4377a
set_option maxRecDepth 100000
namespace Go.Proofs.YtkbodljmkhnebabGreatDoor.Cir
open Go.ChangeShapes Go.WideShapes Go.ChangeAt Go.RowKit Go.Shelf Go.Proofs.YtkbodljmkhnebabGreatDoor.Tok Go.Proofs.YtkbodljmkhnebabGreatDoor.Gt
namespace circuitJoins
theorem readable : ∀ t ∈ Tryz.f3.params.toList, Tryz.prog.readableRec t = true /\ t < Tryz.prog.types.size := by
  rw [Tryz.params3]
  intro t ht
  simp at ht
  rcases ht with rfl | rfl | rfl <;> exact ⟨by kernel_rfl, of_decide_eq_true (by kernel_rfl)⟩
theorem contract (H : Type) (enc : TypeId × Value -> H) (W : World) (base : Nat) (args : Array Value) (ds gs : List (DataW H)) (before : List MemPlace)
    (hval : ∀ (j : Nat) t v, Tryz.f3.params[j]? = some t -> args[j]? = some v -> Value.okWide Tryz.prog W .any base t v)
    (hW : DataW.Whole enc Tryz.prog Tryz.f3.params.toList Rows.circuitJoinsSpec.vars false W args.toList ds gs before) 
    (hsz : (DataW.weightsEach Tryz.prog (Tryz.f3.params.toList ++ (OpenSpec.ofChange Rows.circuitJoinsSpec).bare.plain.varTypes Tryz.prog) (ds ++ gs)).all (· <= reachBytes) = true) (hL : laidMetH Tryz.prog Rows.circuitJoinsRow.laid W) :
    Calls Tryz.prog 3 args W fun e W' => ∃ v, e = .returned v /\ Rows.circuitJoinsSpec.post enc Tryz.prog Tryz.f3 false true false false W args v W' := by
  have hT : Tq W := tq_of hL
  have hW0 := hW
  obtain ⟨p, q, hA, hV, rfl, _, _⟩ := hW
  obtain ⟨rfl, rfl⟩ := trodVars_none hV
  have hA' : DataW.TrodAll enc Tryz.prog W 0 (fun _ => true) true Tryz.f3.params.toList args.toList ds p := hA
  rw [Tryz.params3] at hA' hval
  have hfin : ∀ dd : List (DataW H), ds = dd -> (Rows.circuitJoinsSpec.fn H dd).results = [.lit (.bool true)] /\ (Rows.circuitJoinsSpec.fn H dd).args = dd /\ (Rows.circuitJoinsSpec.fn H dd).vars = [] -> ∀ W', Below W.heap.size W W' -> Rows.circuitJoinsSpec.post enc Tryz.prog Tryz.f3 false true false false W args (.bool true) W' := by
    rintro dd rfl hs W' hb
    exact law_post (enc := enc) Tryz.f3 Rows.circuitJoinsSpec 4 laidOut rfl readable (by kernel_rfl) Tryz.underlying4 hW0 hs hb
  obtain ⟨v0, v1, v2, v3, v4, v5, d0, d1, d2, d3, d4, d5, p0, p1, p2, p3, p4, p5, rfl, rfl, rfl, h0, h1, h2, h3, h4, h5⟩ := trodAll_six hA'
  have hwalk : Calls Tryz.prog 3 #[v0, v1, v2, v3, v4, v5] W fun e W' => e = .returned (.bool true) /\ Below W.heap.size W W' := by
    have hwt : ∀ (i : Nat) (t : TypeId) (d : DataW H), Tryz.f3.params.toList[i]? = some t -> [d0, d1, d2, d3, d4, d5][i]? = some d -> ∀ n ∈ d.weights Tryz.prog t, n <= reachBytes := fun i t d hi hd n hn => by
      have := List.all_eq_true.1 hsz n (DataW.weights_mem_each (j := i) (t := t) (d := d) (by rw [List.getElem?_append_left (List.getElem?_eq_some_iff.1 hi).1]; exact hi) (by rw [List.getElem?_append_left (List.getElem?_eq_some_iff.1 hd).1]; exact hd) n hn)
      simpa using this
    rw [Tryz.params3] at hwt
    obtain ⟨a, ao, k, rfl, hA1, hS1⟩ := circ_openS (hval 0 _ v0 rfl rfl) h0 (hwt 0 _ _ rfl rfl)
    obtain ⟨b, bo, j, rfl, hB1, hS2⟩ := circ_openS (hval 1 _ v1 rfl rfl) h1 (hwt 1 _ _ rfl rfl)
    obtain ⟨aq, cq, qs, rfl, hNq, hcq, hlq⟩ := ints_openS (hval 2 _ v2 rfl rfl) h2 (hwt 2 _ _ rfl rfl)
    obtain ⟨ab, cb, bs, rfl, hNb, hcb, hlb⟩ := ints_openS (hval 3 _ v3 rfl rfl) h3 (hwt 3 _ _ rfl rfl)
    obtain ⟨n, rfl, rfl, rfl, k4⟩ := open_int Tryz.underlying3 (hval 4 _ v4 rfl rfl) h4
    obtain ⟨m, rfl, rfl, rfl, k5⟩ := open_int Tryz.underlying3 (hval 5 _ v5 rfl rfl) h5
    exact xCircuitJoins a b ao bo k j qs bs aq ab cq cb n m hS1 hS2 hlq hcq hlb hcb W hT hA1 hB1 hNq hNb
  refine hwalk.mono ?_
  rintro e W' ⟨rfl, hb⟩
  exact ⟨_, rfl, hfin _ rfl ⟨rfl, rfl, rfl⟩ W' hb⟩
theorem laid_met (os : Os) (args : Array Value) : laidMetH Tryz.prog Rows.circuitJoinsRow.laid ((laidWorld os).forCall (fun _ _ => 0) ⟨#[], args, []⟩).memory :=
  laid_met8 os args
theorem reads (os : Os) {H : Type} (enc : TypeId × Value -> H) : ∃ places, DataW.whole enc Tryz.prog ((laidWorld os).forCall (fun _ _ => 0) ⟨#[], #[.agg #[.int .i64 0, .int .i64 0, .slice none 0 0], .agg #[.int .i64 0, .int .i64 0, .slice none 0 0], .slice none 0 0, .slice none 0 0, .int .i64 0, .int .i64 0], []⟩).memory Tryz.f3.params.toList Rows.circuitJoinsSpec.vars false #[(.agg #[.int .i64 0, .int .i64 0, .slice none 0 0] : Value), .agg #[.int .i64 0, .int .i64 0, .slice none 0 0], .slice none 0 0, .slice none 0 0, .int .i64 0, .int .i64 0].toList 8 = some ([.agg [.lit (.int .i64 0), .lit (.int .i64 0), .nil], .agg [.lit (.int .i64 0), .lit (.int .i64 0), .nil], .nil, .nil, .lit (.int .i64 0), .lit (.int .i64 0)], [], places) :=
  ⟨[], by kernel_rfl⟩
theorem lifted (os : Os) (started : os.Started) (H : Type) (enc : TypeId × Value -> H) (F : Stop.Interp) :
    ReturnsInHanded {} Tryz.checked os 3 .any ((OpenSpec.ofChange Rows.circuitJoinsSpec).preRow enc Tryz.prog Tryz.f3 Rows.circuitJoinsRow.domain false Rows.circuitJoinsRow.laid) (((OpenSpec.ofChange Rows.circuitJoinsSpec).at F).post enc Tryz.prog Tryz.f3 false true false false) := by
  obtain ⟨places, hx⟩ := reads os enc
  refine returnsInHanded_of_row (C := Tryz.checked) (s := OpenSpec.ofChange Rows.circuitJoinsSpec) own started (by kernel_rfl) Tryz.func3
    (witness_row_shaped (enc := enc) (C := Tryz.checked) false (laidWorld os) #[.agg #[.int .i64 0, .int .i64 0, .slice none 0 0], .agg #[.int .i64 0, .int .i64 0, .slice none 0 0], .slice none 0 0, .slice none 0 0, .int .i64 0, .int .i64 0] (laidWorld_os os) (shaped8 os _) (by kernel_rfl)
      (OpenSpec.preRow_of_cond 8 hx (by kernel_rfl) (fun k hk => by cases hk) (by kernel_rfl) (laid_met os _))) ?_
  intro W base args ds gs before hval hW _ _ hsz hL _ _
  exact contract H enc W base args ds gs before hval hW hsz hL
theorem said : Rows.CircuitJoinsSaid :=
  OpenClaim.holds_of_cond 3 Tryz.f3 rfl rfl rfl rfl rfl rfl rfl ⟨rfl, rfl, rfl, rfl, rfl⟩ rfl rfl rfl rfl rfl (by kernel_rfl) Tryz.func3 (by kernel_rfl)
    (of_decide_eq_true (by kernel_rfl)) (by unfold Func.isWrapper; first | (rw [if_pos (by decide +kernel)]; kernel_rfl) | (rw [if_neg (by decide +kernel)]; exact ⟨rfl, rfl⟩))
    (fun os started H enc _ F => by rw [OpenClaim.pre_eq_preRow]; exact lifted os started H enc F)
theorem plain (f : FuncId) (fn : Func) (hf : Tryz.pinned.checked.prog.funcNamed "phasor/phasorlaw08.CircuitJoins" = some f) (hfn : Tryz.pinned.checked.prog.funcs[f]? = some fn) :
    true = Tryz.pinned.checked.prog.looks [] /\ ∀ (j : Nat) t, fn.params[j]? = some t -> Tryz.pinned.checked.prog.wantsStandIn t = false := by
  obtain rfl : f = 3 := Option.some.inj ((show Tryz.prog.funcNamed "phasor/phasorlaw08.CircuitJoins" = some 3 by kernel_rfl).symm.trans hf) |>.symm
  obtain rfl : fn = Tryz.f3 := (Option.some.inj (Tryz.func3.symm.trans hfn)).symm
  refine ⟨by kernel_rfl, fun j t ht => ?_⟩
  rw [Tryz.params3] at ht
  have hm := Array.mem_of_getElem? ht
  simp at hm
  rcases hm with rfl | rfl | rfl
  . exact (show Tryz.prog.wantsStandIn 24 = false by kernel_rfl)
  . exact (show Tryz.prog.wantsStandIn 25 = false by kernel_rfl)
  . exact (show Tryz.prog.wantsStandIn 3 = false by kernel_rfl)
end circuitJoins
end Go.Proofs.YtkbodljmkhnebabGreatDoor.Cir
namespace Go.Proofs.YtkbodljmkhnebabGreatDoor
open Go
theorem CircuitJoins_card : Rows.CircuitJoinsCardSaid :=
  Claim7.holds_tied_plain_at .later [] _ _ _ _ Cir.circuitJoins.said (fun _ h => by cases h) (by kernel_rfl) (fun _ h => by cases h) circuitJoins_row_tie rfl ⟨rfl, rfl⟩ (by kernel_rfl) rfl Cir.circuitJoins.plain (by kernel_rfl)
end Go.Proofs.YtkbodljmkhnebabGreatDoor
