/- TableauPlays answers true for every number of qubits, every row of acts, every string and every row of qubits: from New on the package and the document come to the same tableaux, string by string, and tell the same of them, and the set-up answers as told. Its conditions: the listed tables of packages gate and pauli lie as they are laid. -/
import Derived.Test.YtpehekonjdneaaaGreatDoorK83a41357
set_option maxRecDepth 100000
namespace Go.Proofs.YtpehekonjdneaaaGreatDoor.Pau
open Go.ChangeShapes Go.WideShapes Go.ChangeAt Go.RowKit Go.Shelf Go.Proofs.YtpehekonjdneaaaGreatDoor.Gt Go.Proofs.YtpehekonjdneaaaGreatDoor.Tbl
namespace tableauPlays
theorem readable : ∀ t ∈ Tryz.f3.params.toList, Tryz.prog.readableRec t = true /\ t < Tryz.prog.types.size := by
  rw [Tryz.params3]
  intro t ht
  simp at ht
  rcases ht with rfl | rfl | rfl | rfl <;> exact ⟨by kernel_rfl, of_decide_eq_true (by kernel_rfl)⟩
theorem contract (H : Type) (enc : TypeId × Value -> H) (W : World) (base : Nat) (args : Array Value) (ds gs : List (DataW H)) (before : List MemPlace)
    (hval : ∀ (j : Nat) t v, Tryz.f3.params[j]? = some t -> args[j]? = some v -> Value.okWide Tryz.prog W .any base t v)
    (hW : DataW.Whole enc Tryz.prog Tryz.f3.params.toList Rows.tableauPlaysSpec.vars false W args.toList ds gs before) 
    (hsz : (DataW.weightsEach Tryz.prog (Tryz.f3.params.toList ++ (OpenSpec.ofChange Rows.tableauPlaysSpec).bare.plain.varTypes Tryz.prog) (ds ++ gs)).all (· <= reachBytes) = true) (hL : laidMetH Tryz.prog Rows.tableauPlaysRow.laid W) :
    Calls Tryz.prog 3 args W fun e W' => ∃ v, e = .returned v /\ Rows.tableauPlaysSpec.post enc Tryz.prog Tryz.f3 false true false false W args v W' := by
  have hT : Tbl.Tg W := tg_of (plain8 hL)
  have hW0 := hW
  obtain ⟨p, q, hA, hV, rfl, _, _⟩ := hW
  obtain ⟨rfl, rfl⟩ := trodVars_none hV
  have hA' : DataW.TrodAll enc Tryz.prog W 0 (fun _ => true) true Tryz.f3.params.toList args.toList ds p := hA
  rw [Tryz.params3] at hA' hval
  have hfin : ∀ dd : List (DataW H), ds = dd -> (Rows.tableauPlaysSpec.fn H dd).results = [.lit (.bool true)] /\ (Rows.tableauPlaysSpec.fn H dd).args = dd /\ (Rows.tableauPlaysSpec.fn H dd).vars = [] -> ∀ W', Below W.heap.size W W' -> Rows.tableauPlaysSpec.post enc Tryz.prog Tryz.f3 false true false false W args (.bool true) W' := by
    rintro dd rfl hs W' hb
    exact law_post (enc := enc) Tryz.f3 Rows.tableauPlaysSpec 4 laidOut rfl readable (by kernel_rfl) Tryz.underlying4 hW0 hs hb
  obtain ⟨v0, v1, v2, v3, d0, d1, d2, d3, p0, p1, p2, p3, rfl, rfl, rfl, h0, h1, h2, h3⟩ := trodAll_four hA'
  have hwalk : Calls Tryz.prog 3 #[v0, v1, v2, v3] W fun e W' => e = .returned (.bool true) /\ Below W.heap.size W W' := by
    obtain ⟨n, rfl, rfl, rfl, -⟩ := open_int Tryz.underlying3 (hval 0 _ v0 rfl rfl) h0
    obtain ⟨ao, acts, c, rfl, hAc, -, hal⟩ := acts_open (hval 1 _ v1 rfl rfl) h1 (fun n hn => by simpa using List.all_eq_true.1 hsz n (DataW.weights_mem_each (j := 1) (t := 22) (d := d1) (by rw [Tryz.params3]; rfl) rfl n hn))
    obtain ⟨p, rfl, hp⟩ := pau_open (hval 2 _ v2 rfl rfl) h2
    obtain ⟨so, sc, m, rfl, hM, -, hm⟩ := ints_open14 (hval 3 _ v3 rfl rfl) h3 (fun n hn => by simpa using List.all_eq_true.1 hsz n (DataW.weights_mem_each (j := 3) (t := 26) (d := d3) (by rw [Tryz.params3]; rfl) rfl n hn))
    exact xTableauPlays n acts hal ao c p hp m hm so sc W hT hAc hM
  refine hwalk.mono ?_
  rintro e W' ⟨rfl, hb⟩
  exact ⟨_, rfl, hfin _ rfl ⟨rfl, rfl, rfl⟩ W' hb⟩
theorem laid_met (os : Os) (args : Array Value) : laidMet Tryz.prog Rows.tableauPlaysRow.laid ((laidWorld os).forCall (fun _ _ => 0) ⟨#[], args, []⟩).memory :=
  laid_met8 os args
theorem reads (os : Os) {H : Type} (enc : TypeId × Value -> H) : ∃ places, DataW.whole enc Tryz.prog ((laidWorld os).forCall (fun _ _ => 0) ⟨#[], #[.int .i64 0, .slice none 0 0, .agg #[.int .i64 0, .int .u64 0, .int .u64 0, .int .i64 0], .slice none 0 0], []⟩).memory Tryz.f3.params.toList Rows.tableauPlaysSpec.vars false #[(.int .i64 0 : Value), .slice none 0 0, .agg #[.int .i64 0, .int .u64 0, .int .u64 0, .int .i64 0], .slice none 0 0].toList 8 = some ([.lit (.int .i64 0), .nil, .agg [.lit (.int .i64 0), .lit (.int .u64 0), .lit (.int .u64 0), .lit (.int .i64 0)], .nil], [], places) :=
  ⟨[], by kernel_rfl⟩
theorem lifted (os : Os) (started : os.Started) (H : Type) (enc : TypeId × Value -> H) (F : Stop.Interp) :
    ReturnsInHanded {} Tryz.checked os 3 .any ((OpenSpec.ofChange Rows.tableauPlaysSpec).preRow enc Tryz.prog Tryz.f3 Rows.tableauPlaysRow.domain false Rows.tableauPlaysRow.laid) (((OpenSpec.ofChange Rows.tableauPlaysSpec).at F).post enc Tryz.prog Tryz.f3 false true false false) := by
  obtain ⟨places, hx⟩ := reads os enc
  refine returnsInHanded_of_row (C := Tryz.checked) (s := OpenSpec.ofChange Rows.tableauPlaysSpec) own started (by kernel_rfl) Tryz.func3
    (witness_row_shaped (enc := enc) (C := Tryz.checked) false (laidWorld os) #[.int .i64 0, .slice none 0 0, .agg #[.int .i64 0, .int .u64 0, .int .u64 0, .int .i64 0], .slice none 0 0] (laidWorld_os os) (shaped8 os _) (by kernel_rfl)
      (OpenSpec.preRow_of_cond 8 hx (by kernel_rfl) (fun k hk => by cases hk) (by kernel_rfl) (laid_met os _))) ?_
  intro W base args ds gs before hval hW _ _ hsz hL _ _
  exact contract H enc W base args ds gs before hval hW hsz hL
theorem said : Rows.TableauPlaysSaid :=
  OpenClaim.holds_of_cond 3 Tryz.f3 rfl rfl rfl rfl rfl rfl rfl ⟨rfl, rfl, rfl, rfl, rfl⟩ rfl rfl rfl rfl rfl (by kernel_rfl) Tryz.func3 (by kernel_rfl)
    (of_decide_eq_true (by kernel_rfl)) (by unfold Func.isWrapper; first | (rw [if_pos (by decide +kernel)]; kernel_rfl) | (rw [if_neg (by decide +kernel)]; exact ⟨rfl, rfl⟩))
    (fun os started H enc _ F => by rw [OpenClaim.pre_eq_preRow]; exact lifted os started H enc F)
theorem plain (f : FuncId) (fn : Func) (hf : Tryz.pinned.checked.prog.funcNamed "phasor/phasorlaw14.TableauPlays" = some f) (hfn : Tryz.pinned.checked.prog.funcs[f]? = some fn) :
    false = Tryz.pinned.checked.prog.looks [] /\ ∀ (j : Nat) t, fn.params[j]? = some t -> Tryz.pinned.checked.prog.wantsStandIn t = false := by
  obtain rfl : f = 3 := Option.some.inj ((show Tryz.prog.funcNamed "phasor/phasorlaw14.TableauPlays" = some 3 by kernel_rfl).symm.trans hf) |>.symm
  obtain rfl : fn = Tryz.f3 := (Option.some.inj (Tryz.func3.symm.trans hfn)).symm
  refine ⟨by kernel_rfl, fun j t ht => ?_⟩
  rw [Tryz.params3] at ht
  have hm := Array.mem_of_getElem? ht
  simp at hm
  rcases hm with rfl | rfl | rfl | rfl
  . exact (show Tryz.prog.wantsStandIn 3 = false by kernel_rfl)
  . exact (show Tryz.prog.wantsStandIn 22 = false by kernel_rfl)
  . exact (show Tryz.prog.wantsStandIn 25 = false by kernel_rfl)
  . exact (show Tryz.prog.wantsStandIn 26 = false by kernel_rfl)
end tableauPlays
end Go.Proofs.YtpehekonjdneaaaGreatDoor.Pau
namespace Go.Proofs.YtpehekonjdneaaaGreatDoor
open Go
theorem TableauPlays_card : Rows.TableauPlaysCardSaid :=
  Claim7.holds_tied_plain_at .later [] _ _ _ _ Pau.tableauPlays.said (fun _ h => by cases h) (by kernel_rfl) (fun _ h => by cases h) tableauPlays_row_tie rfl ⟨rfl, rfl⟩ (by kernel_rfl) rfl Pau.tableauPlays.plain (by kernel_rfl)
end Go.Proofs.YtpehekonjdneaaaGreatDoor
