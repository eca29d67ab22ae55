/- TableauForces answers true for every two tableaux and every string: Force and Overlap answer as the document's, what is handed in stays, and the set-up answers as told. Its conditions: the listed tables of packages gate and pauli lie as they are laid. -/
import Derived.Test.YtaggifpnamjghaaDoorKf563d2e5
import Derived.Test.YtaggifpnamjghaaDoorK4abd55f5
set_option maxRecDepth 100000
namespace Go.Proofs.YtaggifpnamjghaaDoor.Pau
open Go.ChangeShapes Go.WideShapes Go.ChangeAt Go.RowKit Go.Shelf Go.Proofs.YtaggifpnamjghaaDoor.Gt Go.Proofs.YtaggifpnamjghaaDoor.Tbl
namespace tableauForces
theorem readable : ∀ t ∈ Tryd.f4.params.toList, Tryd.prog.readableRec t = true /\ t < Tryd.prog.types.size := by
  rw [Tryd.params4]
  intro t ht
  simp at ht
  rcases ht with rfl | rfl | rfl <;> exact ⟨by kernel_rfl, of_decide_eq_true (by kernel_rfl)⟩
theorem contract (H : Type) (enc : TypeId × Value -> H) (W : World) (base : Nat) (args : Array Value) (ds gs : List (DataW H)) (before : List MemPlace)
    (hval : ∀ (j : Nat) t v, Tryd.f4.params[j]? = some t -> args[j]? = some v -> Value.okWide Tryd.prog W .any base t v)
    (hW : DataW.Whole enc Tryd.prog Tryd.f4.params.toList Rows.tableauForcesSpec.vars false W args.toList ds gs before) 
    (hsz : (DataW.weightsEach Tryd.prog (Tryd.f4.params.toList ++ (OpenSpec.ofChange Rows.tableauForcesSpec).bare.plain.varTypes Tryd.prog) (ds ++ gs)).all (· <= reachBytes) = true) (hL : laidMetH Tryd.prog Rows.tableauForcesRow.laid W) :
    Calls Tryd.prog 4 args W fun e W' => ∃ v, e = .returned v /\ Rows.tableauForcesSpec.post enc Tryd.prog Tryd.f4 false true false false W args v W' := by
  have hT : Tbl.Tg W := tg_of (plain8 hL)
  have hW0 := hW
  obtain ⟨p, q, hA, hV, rfl, _, _⟩ := hW
  obtain ⟨rfl, rfl⟩ := trodVars_none hV
  have hA' : DataW.TrodAll enc Tryd.prog W 0 (fun _ => true) true Tryd.f4.params.toList args.toList ds p := hA
  rw [Tryd.params4] at hA' hval
  have hfin : ∀ dd : List (DataW H), ds = dd -> (Rows.tableauForcesSpec.fn H dd).results = [.lit (.bool true)] /\ (Rows.tableauForcesSpec.fn H dd).args = dd /\ (Rows.tableauForcesSpec.fn H dd).vars = [] -> ∀ W', Below W.heap.size W W' -> Rows.tableauForcesSpec.post enc Tryd.prog Tryd.f4 false true false false W args (.bool true) W' := by
    rintro dd rfl hs W' hb
    exact law_post (enc := enc) Tryd.f4 Rows.tableauForcesSpec 4 laidOut rfl readable (by kernel_rfl) Tryd.underlying4 hW0 hs hb
  obtain ⟨v0, v1, v2, d0, d1, d2, p0, p1, p2, rfl, rfl, rfl, h0, h1, h2⟩ := trodAll_three hA'
  have hwalk : Calls Tryd.prog 4 #[v0, v1, v2] W fun e W' => e = .returned (.bool true) /\ Below W.heap.size W W' := by
    obtain ⟨t, a, b, ca, cb, rfl, hth, hs1, hd1⟩ := tab_open (hval 0 _ v0 rfl rfl) h0 (fun n hn => by simpa using List.all_eq_true.1 hsz n (DataW.weights_mem_each (j := 0) (t := 24) (d := d0) (by rw [Tryd.params4]; rfl) rfl n hn))
    obtain ⟨p, rfl, hp⟩ := pau_open (hval 1 _ v1 rfl rfl) h1
    obtain ⟨u, a2, b2, ca2, cb2, rfl, hth2, hs2, hd2⟩ := tab_open (hval 2 _ v2 rfl rfl) h2 (fun n hn => by simpa using List.all_eq_true.1 hsz n (DataW.weights_mem_each (j := 2) (t := 24) (d := d2) (by rw [Tryd.params4]; rfl) rfl n hn))
    exact xTableauForces t u a b a2 b2 ca cb ca2 cb2 p hp W hT hth hs1 hd1 hth2 hs2 hd2
  refine hwalk.mono ?_
  rintro e W' ⟨rfl, hb⟩
  exact ⟨_, rfl, hfin _ rfl ⟨rfl, rfl, rfl⟩ W' hb⟩
theorem laid_met (os : Os) (args : Array Value) : laidMet Tryd.prog Rows.tableauForcesRow.laid ((laidWorld os).forCall (fun _ _ => 0) ⟨#[], args, []⟩).memory :=
  laid_met8 os args
theorem reads (os : Os) {H : Type} (enc : TypeId × Value -> H) : ∃ places, DataW.whole enc Tryd.prog ((laidWorld os).forCall (fun _ _ => 0) ⟨#[], #[.agg #[.int .i64 0, .slice none 0 0, .slice none 0 0], .agg #[.int .i64 0, .int .u64 0, .int .u64 0, .int .i64 0], .agg #[.int .i64 0, .slice none 0 0, .slice none 0 0]], []⟩).memory Tryd.f4.params.toList Rows.tableauForcesSpec.vars false #[(.agg #[.int .i64 0, .slice none 0 0, .slice none 0 0] : Value), .agg #[.int .i64 0, .int .u64 0, .int .u64 0, .int .i64 0], .agg #[.int .i64 0, .slice none 0 0, .slice none 0 0]].toList 8 = some ([.agg [.lit (.int .i64 0), .nil, .nil], .agg [.lit (.int .i64 0), .lit (.int .u64 0), .lit (.int .u64 0), .lit (.int .i64 0)], .agg [.lit (.int .i64 0), .nil, .nil]], [], places) :=
  ⟨[], by kernel_rfl⟩
theorem lifted (os : Os) (started : os.Started) (H : Type) (enc : TypeId × Value -> H) (F : Stop.Interp) :
    ReturnsInHanded {} Tryd.checked os 4 .any ((OpenSpec.ofChange Rows.tableauForcesSpec).preRow enc Tryd.prog Tryd.f4 Rows.tableauForcesRow.domain false Rows.tableauForcesRow.laid) (((OpenSpec.ofChange Rows.tableauForcesSpec).at F).post enc Tryd.prog Tryd.f4 false true false false) := by
  obtain ⟨places, hx⟩ := reads os enc
  refine returnsInHanded_of_row (C := Tryd.checked) (s := OpenSpec.ofChange Rows.tableauForcesSpec) own started (by kernel_rfl) Tryd.func4
    (witness_row_shaped (enc := enc) (C := Tryd.checked) false (laidWorld os) #[.agg #[.int .i64 0, .slice none 0 0, .slice none 0 0], .agg #[.int .i64 0, .int .u64 0, .int .u64 0, .int .i64 0], .agg #[.int .i64 0, .slice none 0 0, .slice none 0 0]] (laidWorld_os os) (shaped8 os _) (by kernel_rfl)
      (OpenSpec.preRow_of_cond 8 hx (by kernel_rfl) (fun k hk => by cases hk) (by kernel_rfl) (laid_met os _))) ?_
  intro W base args ds gs before hval hW _ _ hsz hL _ _
  exact contract H enc W base args ds gs before hval hW hsz hL
theorem said : Rows.TableauForcesSaid :=
  OpenClaim.holds_of_cond 4 Tryd.f4 rfl rfl rfl rfl rfl rfl rfl ⟨rfl, rfl, rfl, rfl, rfl⟩ rfl rfl rfl rfl rfl (by kernel_rfl) Tryd.func4 (by kernel_rfl)
    (of_decide_eq_true (by kernel_rfl)) (by unfold Func.isWrapper; first | (rw [if_pos (by decide +kernel)]; kernel_rfl) | (rw [if_neg (by decide +kernel)]; exact ⟨rfl, rfl⟩))
    (fun os started H enc _ F => by rw [OpenClaim.pre_eq_preRow]; exact lifted os started H enc F)
theorem plain (f : FuncId) (fn : Func) (hf : Tryd.pinned.checked.prog.funcNamed "phasor/phasorlaw14.TableauForces" = some f) (hfn : Tryd.pinned.checked.prog.funcs[f]? = some fn) :
    false = Tryd.pinned.checked.prog.looks [] /\ ∀ (j : Nat) t, fn.params[j]? = some t -> Tryd.pinned.checked.prog.wantsStandIn t = false := by
  obtain rfl : f = 4 := Option.some.inj ((show Tryd.prog.funcNamed "phasor/phasorlaw14.TableauForces" = some 4 by kernel_rfl).symm.trans hf) |>.symm
  obtain rfl : fn = Tryd.f4 := (Option.some.inj (Tryd.func4.symm.trans hfn)).symm
  refine ⟨by kernel_rfl, fun j t ht => ?_⟩
  rw [Tryd.params4] at ht
  have hm := Array.mem_of_getElem? ht
  simp at hm
  rcases hm with rfl | rfl | rfl
  . exact (show Tryd.prog.wantsStandIn 24 = false by kernel_rfl)
  . exact (show Tryd.prog.wantsStandIn 32 = false by kernel_rfl)
  . exact (show Tryd.prog.wantsStandIn 24 = false by kernel_rfl)
end tableauForces
end Go.Proofs.YtaggifpnamjghaaDoor.Pau
namespace Go.Proofs.YtaggifpnamjghaaDoor
open Go
theorem TableauForces_card : Rows.TableauForcesCardSaid :=
  Claim7.holds_tied_plain_at .later [] _ _ _ _ Pau.tableauForces.said (fun _ h => by cases h) (by kernel_rfl) (fun _ h => by cases h) tableauForces_row_tie rfl ⟨rfl, rfl⟩ (by kernel_rfl) rfl Pau.tableauForces.plain (by kernel_rfl)
end Go.Proofs.YtaggifpnamjghaaDoor
