/- TableauCanon answers true for every tableau and every two numbers: the one form of a tableau's strings does not hang on their order, nor on one being multiplied with another, and the set-up answers as told. Its conditions: the listed tables of packages gate and pauli lie as they are laid. -/
import Derived.Test.YtaggifpnamjghaaDoorK69168690
import Derived.Test.YtaggifpnamjghaaDoorK7ec75efd
set_option maxRecDepth 100000
namespace Go.Proofs.YtaggifpnamjghaaDoor.Pau
open Go.ChangeShapes Go.WideShapes Go.ChangeAt Go.RowKit Go.Shelf Go.Proofs.YtaggifpnamjghaaDoor.Gt Go.Proofs.YtaggifpnamjghaaDoor.Tbl
namespace tableauCanon
theorem readable : ∀ t ∈ Tryd.f3.params.toList, Tryd.prog.readableRec t = true /\ t < Tryd.prog.types.size := by
  rw [Tryd.params3]
  intro t ht
  simp at ht
  rcases ht with rfl | rfl <;> exact ⟨by kernel_rfl, of_decide_eq_true (by kernel_rfl)⟩
theorem contract (H : Type) (enc : TypeId × Value -> H) (W : World) (base : Nat) (args : Array Value) (ds gs : List (DataW H)) (before : List MemPlace)
    (hval : ∀ (j : Nat) t v, Tryd.f3.params[j]? = some t -> args[j]? = some v -> Value.okWide Tryd.prog W .any base t v)
    (hW : DataW.Whole enc Tryd.prog Tryd.f3.params.toList Rows.tableauCanonSpec.vars false W args.toList ds gs before) 
    (hsz : (DataW.weightsEach Tryd.prog (Tryd.f3.params.toList ++ (OpenSpec.ofChange Rows.tableauCanonSpec).bare.plain.varTypes Tryd.prog) (ds ++ gs)).all (· <= reachBytes) = true) (hL : laidMetH Tryd.prog Rows.tableauCanonRow.laid W) :
    Calls Tryd.prog 3 args W fun e W' => ∃ v, e = .returned v /\ Rows.tableauCanonSpec.post enc Tryd.prog Tryd.f3 false true false false W args v W' := by
  have hT : Tbl.Tg W := tg_of (plain8 hL)
  have hW0 := hW
  obtain ⟨p, q, hA, hV, rfl, _, _⟩ := hW
  obtain ⟨rfl, rfl⟩ := trodVars_none hV
  have hA' : DataW.TrodAll enc Tryd.prog W 0 (fun _ => true) true Tryd.f3.params.toList args.toList ds p := hA
  rw [Tryd.params3] at hA' hval
  have hfin : ∀ dd : List (DataW H), ds = dd -> (Rows.tableauCanonSpec.fn H dd).results = [.lit (.bool true)] /\ (Rows.tableauCanonSpec.fn H dd).args = dd /\ (Rows.tableauCanonSpec.fn H dd).vars = [] -> ∀ W', Below W.heap.size W W' -> Rows.tableauCanonSpec.post enc Tryd.prog Tryd.f3 false true false false W args (.bool true) W' := by
    rintro dd rfl hs W' hb
    exact law_post (enc := enc) Tryd.f3 Rows.tableauCanonSpec 4 laidOut rfl readable (by kernel_rfl) Tryd.underlying4 hW0 hs hb
  obtain ⟨v0, v1, v2, d0, d1, d2, p0, p1, p2, rfl, rfl, rfl, h0, h1, h2⟩ := trodAll_three hA'
  have hwalk : Calls Tryd.prog 3 #[v0, v1, v2] W fun e W' => e = .returned (.bool true) /\ Below W.heap.size W W' := by
    obtain ⟨t, a, b, ca, cb, rfl, hth, -, -⟩ := tab_open (hval 0 _ v0 rfl rfl) h0 (fun n hn => by simpa using List.all_eq_true.1 hsz n (DataW.weights_mem_each (j := 0) (t := 24) (d := d0) (by rw [Tryd.params3]; rfl) rfl n hn))
    obtain ⟨i, rfl, rfl, rfl, -⟩ := open_int Tryd.underlying3 (hval 1 _ v1 rfl rfl) h1
    obtain ⟨k, rfl, rfl, rfl, -⟩ := open_int Tryd.underlying3 (hval 2 _ v2 rfl rfl) h2
    exact xTableauCanon t a b ca cb i k W hT hth
  refine hwalk.mono ?_
  rintro e W' ⟨rfl, hb⟩
  exact ⟨_, rfl, hfin _ rfl ⟨rfl, rfl, rfl⟩ W' hb⟩
theorem laid_met (os : Os) (args : Array Value) : laidMet Tryd.prog Rows.tableauCanonRow.laid ((laidWorld os).forCall (fun _ _ => 0) ⟨#[], args, []⟩).memory :=
  laid_met8 os args
theorem reads (os : Os) {H : Type} (enc : TypeId × Value -> H) : ∃ places, DataW.whole enc Tryd.prog ((laidWorld os).forCall (fun _ _ => 0) ⟨#[], #[.agg #[.int .i64 0, .slice none 0 0, .slice none 0 0], .int .i64 0, .int .i64 0], []⟩).memory Tryd.f3.params.toList Rows.tableauCanonSpec.vars false #[(.agg #[.int .i64 0, .slice none 0 0, .slice none 0 0] : Value), .int .i64 0, .int .i64 0].toList 8 = some ([.agg [.lit (.int .i64 0), .nil, .nil], .lit (.int .i64 0), .lit (.int .i64 0)], [], places) :=
  ⟨[], by kernel_rfl⟩
theorem lifted (os : Os) (started : os.Started) (H : Type) (enc : TypeId × Value -> H) (F : Stop.Interp) :
    ReturnsInHanded {} Tryd.checked os 3 .any ((OpenSpec.ofChange Rows.tableauCanonSpec).preRow enc Tryd.prog Tryd.f3 Rows.tableauCanonRow.domain false Rows.tableauCanonRow.laid) (((OpenSpec.ofChange Rows.tableauCanonSpec).at F).post enc Tryd.prog Tryd.f3 false true false false) := by
  obtain ⟨places, hx⟩ := reads os enc
  refine returnsInHanded_of_row (C := Tryd.checked) (s := OpenSpec.ofChange Rows.tableauCanonSpec) own started (by kernel_rfl) Tryd.func3
    (witness_row_shaped (enc := enc) (C := Tryd.checked) false (laidWorld os) #[.agg #[.int .i64 0, .slice none 0 0, .slice none 0 0], .int .i64 0, .int .i64 0] (laidWorld_os os) (shaped8 os _) (by kernel_rfl)
      (OpenSpec.preRow_of_cond 8 hx (by kernel_rfl) (fun k hk => by cases hk) (by kernel_rfl) (laid_met os _))) ?_
  intro W base args ds gs before hval hW _ _ hsz hL _ _
  exact contract H enc W base args ds gs before hval hW hsz hL
theorem said : Rows.TableauCanonSaid :=
  OpenClaim.holds_of_cond 3 Tryd.f3 rfl rfl rfl rfl rfl rfl rfl ⟨rfl, rfl, rfl, rfl, rfl⟩ rfl rfl rfl rfl rfl (by kernel_rfl) Tryd.func3 (by kernel_rfl)
    (of_decide_eq_true (by kernel_rfl)) (by unfold Func.isWrapper; first | (rw [if_pos (by decide +kernel)]; kernel_rfl) | (rw [if_neg (by decide +kernel)]; exact ⟨rfl, rfl⟩))
    (fun os started H enc _ F => by rw [OpenClaim.pre_eq_preRow]; exact lifted os started H enc F)
theorem plain (f : FuncId) (fn : Func) (hf : Tryd.pinned.checked.prog.funcNamed "phasor/phasorlaw14.TableauCanon" = some f) (hfn : Tryd.pinned.checked.prog.funcs[f]? = some fn) :
    false = Tryd.pinned.checked.prog.looks [] /\ ∀ (j : Nat) t, fn.params[j]? = some t -> Tryd.pinned.checked.prog.wantsStandIn t = false := by
  obtain rfl : f = 3 := Option.some.inj ((show Tryd.prog.funcNamed "phasor/phasorlaw14.TableauCanon" = some 3 by kernel_rfl).symm.trans hf) |>.symm
  obtain rfl : fn = Tryd.f3 := (Option.some.inj (Tryd.func3.symm.trans hfn)).symm
  refine ⟨by kernel_rfl, fun j t ht => ?_⟩
  rw [Tryd.params3] at ht
  have hm := Array.mem_of_getElem? ht
  simp at hm
  rcases hm with rfl | rfl
  . exact (show Tryd.prog.wantsStandIn 24 = false by kernel_rfl)
  . exact (show Tryd.prog.wantsStandIn 3 = false by kernel_rfl)
end tableauCanon
end Go.Proofs.YtaggifpnamjghaaDoor.Pau
namespace Go.Proofs.YtaggifpnamjghaaDoor
open Go
theorem TableauCanon_card : Rows.TableauCanonCardSaid :=
  Claim7.holds_tied_plain_at .later [] _ _ _ _ Pau.tableauCanon.said (fun _ h => by cases h) (by kernel_rfl) (fun _ h => by cases h) tableauCanon_row_tie rfl ⟨rfl, rfl⟩ (by kernel_rfl) rfl Pau.tableauCanon.plain (by kernel_rfl)
end Go.Proofs.YtaggifpnamjghaaDoor
