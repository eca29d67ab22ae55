/- TableauBack answers true for every tableau, every kind of gate, all qubits and every side: a gate and then its inverse give the same strings, what comes is a tableau, a side's entropy is the other side's and within both, and the set-up answers as told. Its conditions: the listed tables of packages gate and pauli lie as they are laid. -/
import Derived.Test.YtpehekonjdneaaaDoorKab047562
import Derived.Test.YtpehekonjdneaaaDoorK9a051aed
set_option maxRecDepth 100000
namespace Go.Proofs.YtpehekonjdneaaaDoor.Pau
open Go.ChangeShapes Go.WideShapes Go.ChangeAt Go.RowKit Go.Shelf Go.Proofs.YtpehekonjdneaaaDoor.Gt Go.Proofs.YtpehekonjdneaaaDoor.Tbl
namespace tableauBack
theorem readable : ∀ t ∈ Tryd.f3.params.toList, Tryd.prog.readableRec t = true /\ t < Tryd.prog.types.size := by
  rw [Tryd.params3]
  intro t ht
  simp at ht
  rcases ht with rfl | rfl | rfl <;> exact ⟨by kernel_rfl, of_decide_eq_true (by kernel_rfl)⟩
theorem contract (H : Type) (enc : TypeId × Value -> H) (W : World) (base : Nat) (args : Array Value) (ds gs : List (DataW H)) (before : List MemPlace)
    (hval : ∀ (j : Nat) t v, Tryd.f3.params[j]? = some t -> args[j]? = some v -> Value.okWide Tryd.prog W .any base t v)
    (hW : DataW.Whole enc Tryd.prog Tryd.f3.params.toList Rows.tableauBackSpec.vars false W args.toList ds gs before) 
    (hsz : (DataW.weightsEach Tryd.prog (Tryd.f3.params.toList ++ (OpenSpec.ofChange Rows.tableauBackSpec).bare.plain.varTypes Tryd.prog) (ds ++ gs)).all (· <= reachBytes) = true) (hL : laidMetH Tryd.prog Rows.tableauBackRow.laid W) :
    Calls Tryd.prog 3 args W fun e W' => ∃ v, e = .returned v /\ Rows.tableauBackSpec.post enc Tryd.prog Tryd.f3 false true false false W args v W' := by
  have hT : Tbl.Tg W := tg_of (plain8 hL)
  have hW0 := hW
  obtain ⟨p, q, hA, hV, rfl, _, _⟩ := hW
  obtain ⟨rfl, rfl⟩ := trodVars_none hV
  have hA' : DataW.TrodAll enc Tryd.prog W 0 (fun _ => true) true Tryd.f3.params.toList args.toList ds p := hA
  rw [Tryd.params3] at hA' hval
  have hfin : ∀ dd : List (DataW H), ds = dd -> (Rows.tableauBackSpec.fn H dd).results = [.lit (.bool true)] /\ (Rows.tableauBackSpec.fn H dd).args = dd /\ (Rows.tableauBackSpec.fn H dd).vars = [] -> ∀ W', Below W.heap.size W W' -> Rows.tableauBackSpec.post enc Tryd.prog Tryd.f3 false true false false W args (.bool true) W' := by
    rintro dd rfl hs W' hb
    exact law_post (enc := enc) Tryd.f3 Rows.tableauBackSpec 4 laidOut rfl readable (by kernel_rfl) Tryd.underlying4 hW0 hs hb
  obtain ⟨v0, v1, v2, v3, d0, d1, d2, d3, p0, p1, p2, p3, rfl, rfl, rfl, h0, h1, h2, h3⟩ := trodAll_four hA'
  have hwalk : Calls Tryd.prog 3 #[v0, v1, v2, v3] W fun e W' => e = .returned (.bool true) /\ Below W.heap.size W W' := by
    obtain ⟨t, a, b, ca, cb, rfl, hth, -, -⟩ := tab_open (hval 0 _ v0 rfl rfl) h0 (fun n hn => by simpa using List.all_eq_true.1 hsz n (DataW.weights_mem_each (j := 0) (t := 24) (d := d0) (by rw [Tryd.params3]; rfl) rfl n hn))
    obtain ⟨k, rfl, rfl, rfl, -⟩ := open_int Tryd.underlying25 (hval 1 _ v1 rfl rfl) h1
    obtain ⟨ao, c, l, rfl, hNl, hlc, hl⟩ := ints_open14 (hval 2 _ v2 rfl rfl) h2 (fun n hn => by simpa using List.all_eq_true.1 hsz n (DataW.weights_mem_each (j := 2) (t := 26) (d := d2) (by rw [Tryd.params3]; rfl) rfl n hn))
    obtain ⟨so, sc, m, rfl, hMm, -, hm⟩ := ints_open14 (hval 3 _ v3 rfl rfl) h3 (fun n hn => by simpa using List.all_eq_true.1 hsz n (DataW.weights_mem_each (j := 3) (t := 26) (d := d3) (by rw [Tryd.params3]; rfl) rfl n hn))
    exact xTableauBack t a b ca cb k l hl ao c hlc m hm so sc W hT hth hNl hMm
  refine hwalk.mono ?_
  rintro e W' ⟨rfl, hb⟩
  exact ⟨_, rfl, hfin _ rfl ⟨rfl, rfl, rfl⟩ W' hb⟩
theorem laid_met (os : Os) (args : Array Value) : laidMet Tryd.prog Rows.tableauBackRow.laid ((laidWorld os).forCall (fun _ _ => 0) ⟨#[], args, []⟩).memory :=
  laid_met8 os args
theorem reads (os : Os) {H : Type} (enc : TypeId × Value -> H) : ∃ places, DataW.whole enc Tryd.prog ((laidWorld os).forCall (fun _ _ => 0) ⟨#[], #[.agg #[.int .i64 0, .slice none 0 0, .slice none 0 0], .int .i64 0, .slice none 0 0, .slice none 0 0], []⟩).memory Tryd.f3.params.toList Rows.tableauBackSpec.vars false #[(.agg #[.int .i64 0, .slice none 0 0, .slice none 0 0] : Value), .int .i64 0, .slice none 0 0, .slice none 0 0].toList 8 = some ([.agg [.lit (.int .i64 0), .nil, .nil], .lit (.int .i64 0), .nil, .nil], [], places) :=
  ⟨[], by kernel_rfl⟩
theorem lifted (os : Os) (started : os.Started) (H : Type) (enc : TypeId × Value -> H) (F : Stop.Interp) :
    ReturnsInHanded {} Tryd.checked os 3 .any ((OpenSpec.ofChange Rows.tableauBackSpec).preRow enc Tryd.prog Tryd.f3 Rows.tableauBackRow.domain false Rows.tableauBackRow.laid) (((OpenSpec.ofChange Rows.tableauBackSpec).at F).post enc Tryd.prog Tryd.f3 false true false false) := by
  obtain ⟨places, hx⟩ := reads os enc
  refine returnsInHanded_of_row (C := Tryd.checked) (s := OpenSpec.ofChange Rows.tableauBackSpec) own started (by kernel_rfl) Tryd.func3
    (witness_row_shaped (enc := enc) (C := Tryd.checked) false (laidWorld os) #[.agg #[.int .i64 0, .slice none 0 0, .slice none 0 0], .int .i64 0, .slice none 0 0, .slice none 0 0] (laidWorld_os os) (shaped8 os _) (by kernel_rfl)
      (OpenSpec.preRow_of_cond 8 hx (by kernel_rfl) (fun k hk => by cases hk) (by kernel_rfl) (laid_met os _))) ?_
  intro W base args ds gs before hval hW _ _ hsz hL _ _
  exact contract H enc W base args ds gs before hval hW hsz hL
theorem said : Rows.TableauBackSaid :=
  OpenClaim.holds_of_cond 3 Tryd.f3 rfl rfl rfl rfl rfl rfl rfl ⟨rfl, rfl, rfl, rfl, rfl⟩ rfl rfl rfl rfl rfl (by kernel_rfl) Tryd.func3 (by kernel_rfl)
    (of_decide_eq_true (by kernel_rfl)) (by unfold Func.isWrapper; first | (rw [if_pos (by decide +kernel)]; kernel_rfl) | (rw [if_neg (by decide +kernel)]; exact ⟨rfl, rfl⟩))
    (fun os started H enc _ F => by rw [OpenClaim.pre_eq_preRow]; exact lifted os started H enc F)
theorem plain (f : FuncId) (fn : Func) (hf : Tryd.pinned.checked.prog.funcNamed "phasor/phasorlaw14.TableauBack" = some f) (hfn : Tryd.pinned.checked.prog.funcs[f]? = some fn) :
    false = Tryd.pinned.checked.prog.looks [] /\ ∀ (j : Nat) t, fn.params[j]? = some t -> Tryd.pinned.checked.prog.wantsStandIn t = false := by
  obtain rfl : f = 3 := Option.some.inj ((show Tryd.prog.funcNamed "phasor/phasorlaw14.TableauBack" = some 3 by kernel_rfl).symm.trans hf) |>.symm
  obtain rfl : fn = Tryd.f3 := (Option.some.inj (Tryd.func3.symm.trans hfn)).symm
  refine ⟨by kernel_rfl, fun j t ht => ?_⟩
  rw [Tryd.params3] at ht
  have hm := Array.mem_of_getElem? ht
  simp at hm
  rcases hm with rfl | rfl | rfl
  . exact (show Tryd.prog.wantsStandIn 24 = false by kernel_rfl)
  . exact (show Tryd.prog.wantsStandIn 25 = false by kernel_rfl)
  . exact (show Tryd.prog.wantsStandIn 26 = false by kernel_rfl)
end tableauBack
end Go.Proofs.YtpehekonjdneaaaDoor.Pau
namespace Go.Proofs.YtpehekonjdneaaaDoor
open Go
theorem TableauBack_card : Rows.TableauBackCardSaid :=
  Claim7.holds_tied_plain_at .later [] _ _ _ _ Pau.tableauBack.said (fun _ h => by cases h) (by kernel_rfl) (fun _ h => by cases h) tableauBack_row_tie rfl ⟨rfl, rfl⟩ (by kernel_rfl) rfl Pau.tableauBack.plain (by kernel_rfl)
end Go.Proofs.YtpehekonjdneaaaDoor
