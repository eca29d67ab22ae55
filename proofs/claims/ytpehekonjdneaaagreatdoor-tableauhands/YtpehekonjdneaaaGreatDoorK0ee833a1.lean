/- TableauHands answers true for every two tableaux, every act, every string and every row of qubits: each call answers as the document's, and the set-up answers as told. Its conditions: the listed tables of packages gate and pauli lie as they are laid. -/
import Derived.Test.YtpehekonjdneaaaGreatDoorK73e60dce
import Derived.Test.YtpehekonjdneaaaGreatDoorK93ce95de
set_option maxRecDepth 100000
namespace Go.Proofs.YtpehekonjdneaaaGreatDoor.Pau
open Go.ChangeShapes Go.WideShapes Go.ChangeAt Go.RowKit Go.Shelf Go.Proofs.YtpehekonjdneaaaGreatDoor.Gt Go.Proofs.YtpehekonjdneaaaGreatDoor.Tbl
namespace tableauHands
theorem readable : ∀ t ∈ Tryz.f4.params.toList, Tryz.prog.readableRec t = true /\ t < Tryz.prog.types.size := by
  rw [Tryz.params4]
  intro t ht
  simp at ht
  rcases ht with rfl | rfl | rfl | rfl <;> exact ⟨by kernel_rfl, of_decide_eq_true (by kernel_rfl)⟩
theorem contract (H : Type) (enc : TypeId × Value -> H) (W : World) (base : Nat) (args : Array Value) (ds gs : List (DataW H)) (before : List MemPlace)
    (hval : ∀ (j : Nat) t v, Tryz.f4.params[j]? = some t -> args[j]? = some v -> Value.okWide Tryz.prog W .any base t v)
    (hW : DataW.Whole enc Tryz.prog Tryz.f4.params.toList Rows.tableauHandsSpec.vars false W args.toList ds gs before) 
    (hsz : (DataW.weightsEach Tryz.prog (Tryz.f4.params.toList ++ (OpenSpec.ofChange Rows.tableauHandsSpec).bare.plain.varTypes Tryz.prog) (ds ++ gs)).all (· <= reachBytes) = true) (hL : laidMetH Tryz.prog Rows.tableauHandsRow.laid W) :
    Calls Tryz.prog 4 args W fun e W' => ∃ v, e = .returned v /\ Rows.tableauHandsSpec.post enc Tryz.prog Tryz.f4 false true false false W args v W' := by
  have hT : Tbl.Tg W := tg_of (plain8 hL)
  have hW0 := hW
  obtain ⟨p, q, hA, hV, rfl, _, _⟩ := hW
  obtain ⟨rfl, rfl⟩ := trodVars_none hV
  have hA' : DataW.TrodAll enc Tryz.prog W 0 (fun _ => true) true Tryz.f4.params.toList args.toList ds p := hA
  rw [Tryz.params4] at hA' hval
  have hfin : ∀ dd : List (DataW H), ds = dd -> (Rows.tableauHandsSpec.fn H dd).results = [.lit (.bool true)] /\ (Rows.tableauHandsSpec.fn H dd).args = dd /\ (Rows.tableauHandsSpec.fn H dd).vars = [] -> ∀ W', Below W.heap.size W W' -> Rows.tableauHandsSpec.post enc Tryz.prog Tryz.f4 false true false false W args (.bool true) W' := by
    rintro dd rfl hs W' hb
    exact law_post (enc := enc) Tryz.f4 Rows.tableauHandsSpec 4 laidOut rfl readable (by kernel_rfl) Tryz.underlying4 hW0 hs hb
  obtain ⟨v0, v1, v2, v3, v4, d0, d1, d2, d3, d4, p0, p1, p2, p3, p4, rfl, rfl, rfl, h0, h1, h2, h3, h4⟩ := trodAll_five hA'
  have hwalk : Calls Tryz.prog 4 #[v0, v1, v2, v3, v4] W fun e W' => e = .returned (.bool true) /\ Below W.heap.size W W' := by
    obtain ⟨t, a, b, ca, cb, rfl, hth, hs1, hd1⟩ := tab_open (hval 0 _ v0 rfl rfl) h0 (fun n hn => by simpa using List.all_eq_true.1 hsz n (DataW.weights_mem_each (j := 0) (t := 29) (d := d0) (by rw [Tryz.params4]; rfl) rfl n hn))
    obtain ⟨u, a2, b2, ca2, cb2, rfl, hth2, hs2, hd2⟩ := tab_open (hval 1 _ v1 rfl rfl) h1 (fun n hn => by simpa using List.all_eq_true.1 hsz n (DataW.weights_mem_each (j := 1) (t := 29) (d := d1) (by rw [Tryz.params4]; rfl) rfl n hn))
    obtain ⟨k, g, x, l, ao, c, rfl, hN, hlc, hl⟩ := act_open (hval 2 _ v2 rfl rfl) h2 (fun n hn => by simpa using List.all_eq_true.1 hsz n (DataW.weights_mem_each (j := 2) (t := 41) (d := d2) (by rw [Tryz.params4]; rfl) rfl n hn))
    obtain ⟨p, rfl, hp⟩ := pau_open (hval 3 _ v3 rfl rfl) h3
    obtain ⟨so, sc, m, rfl, hM, -, hm⟩ := ints_open14 (hval 4 _ v4 rfl rfl) h4 (fun n hn => by simpa using List.all_eq_true.1 hsz n (DataW.weights_mem_each (j := 4) (t := 26) (d := d4) (by rw [Tryz.params4]; rfl) rfl n hn))
    exact xTableauHands t u a b a2 b2 ca cb ca2 cb2 k g x l hl ao c hlc p hp m hm so sc W hT hth hth2 hN hM
  refine hwalk.mono ?_
  rintro e W' ⟨rfl, hb⟩
  exact ⟨_, rfl, hfin _ rfl ⟨rfl, rfl, rfl⟩ W' hb⟩
theorem laid_met (os : Os) (args : Array Value) : laidMet Tryz.prog Rows.tableauHandsRow.laid ((laidWorld os).forCall (fun _ _ => 0) ⟨#[], args, []⟩).memory :=
  laid_met8 os args
theorem reads (os : Os) {H : Type} (enc : TypeId × Value -> H) : ∃ places, DataW.whole enc Tryz.prog ((laidWorld os).forCall (fun _ _ => 0) ⟨#[], #[.agg #[.int .i64 0, .slice none 0 0, .slice none 0 0], .agg #[.int .i64 0, .slice none 0 0, .slice none 0 0], .agg #[.int .i64 0, .int .i64 0, .slice none 0 0, .int .i64 0], .agg #[.int .i64 0, .int .u64 0, .int .u64 0, .int .i64 0], .slice none 0 0], []⟩).memory Tryz.f4.params.toList Rows.tableauHandsSpec.vars false #[(.agg #[.int .i64 0, .slice none 0 0, .slice none 0 0] : Value), .agg #[.int .i64 0, .slice none 0 0, .slice none 0 0], .agg #[.int .i64 0, .int .i64 0, .slice none 0 0, .int .i64 0], .agg #[.int .i64 0, .int .u64 0, .int .u64 0, .int .i64 0], .slice none 0 0].toList 8 = some ([.agg [.lit (.int .i64 0), .nil, .nil], .agg [.lit (.int .i64 0), .nil, .nil], .agg [.lit (.int .i64 0), .lit (.int .i64 0), .nil, .lit (.int .i64 0)], .agg [.lit (.int .i64 0), .lit (.int .u64 0), .lit (.int .u64 0), .lit (.int .i64 0)], .nil], [], places) :=
  ⟨[], by kernel_rfl⟩
theorem lifted (os : Os) (started : os.Started) (H : Type) (enc : TypeId × Value -> H) (F : Stop.Interp) :
    ReturnsInHanded {} Tryz.checked os 4 .any ((OpenSpec.ofChange Rows.tableauHandsSpec).preRow enc Tryz.prog Tryz.f4 Rows.tableauHandsRow.domain false Rows.tableauHandsRow.laid) (((OpenSpec.ofChange Rows.tableauHandsSpec).at F).post enc Tryz.prog Tryz.f4 false true false false) := by
  obtain ⟨places, hx⟩ := reads os enc
  refine returnsInHanded_of_row (C := Tryz.checked) (s := OpenSpec.ofChange Rows.tableauHandsSpec) own started (by kernel_rfl) Tryz.func4
    (witness_row_shaped (enc := enc) (C := Tryz.checked) false (laidWorld os) #[.agg #[.int .i64 0, .slice none 0 0, .slice none 0 0], .agg #[.int .i64 0, .slice none 0 0, .slice none 0 0], .agg #[.int .i64 0, .int .i64 0, .slice none 0 0, .int .i64 0], .agg #[.int .i64 0, .int .u64 0, .int .u64 0, .int .i64 0], .slice none 0 0] (laidWorld_os os) (shaped8 os _) (by kernel_rfl)
      (OpenSpec.preRow_of_cond 8 hx (by kernel_rfl) (fun k hk => by cases hk) (by kernel_rfl) (laid_met os _))) ?_
  intro W base args ds gs before hval hW _ _ hsz hL _ _
  exact contract H enc W base args ds gs before hval hW hsz hL
theorem said : Rows.TableauHandsSaid :=
  OpenClaim.holds_of_cond 4 Tryz.f4 rfl rfl rfl rfl rfl rfl rfl ⟨rfl, rfl, rfl, rfl, rfl⟩ rfl rfl rfl rfl rfl (by kernel_rfl) Tryz.func4 (by kernel_rfl)
    (of_decide_eq_true (by kernel_rfl)) (by unfold Func.isWrapper; first | (rw [if_pos (by decide +kernel)]; kernel_rfl) | (rw [if_neg (by decide +kernel)]; exact ⟨rfl, rfl⟩))
    (fun os started H enc _ F => by rw [OpenClaim.pre_eq_preRow]; exact lifted os started H enc F)
theorem plain (f : FuncId) (fn : Func) (hf : Tryz.pinned.checked.prog.funcNamed "phasor/phasorlaw14.TableauHands" = some f) (hfn : Tryz.pinned.checked.prog.funcs[f]? = some fn) :
    false = Tryz.pinned.checked.prog.looks [] /\ ∀ (j : Nat) t, fn.params[j]? = some t -> Tryz.pinned.checked.prog.wantsStandIn t = false := by
  obtain rfl : f = 4 := Option.some.inj ((show Tryz.prog.funcNamed "phasor/phasorlaw14.TableauHands" = some 4 by kernel_rfl).symm.trans hf) |>.symm
  obtain rfl : fn = Tryz.f4 := (Option.some.inj (Tryz.func4.symm.trans hfn)).symm
  refine ⟨by kernel_rfl, fun j t ht => ?_⟩
  rw [Tryz.params4] at ht
  have hm := Array.mem_of_getElem? ht
  simp at hm
  rcases hm with rfl | rfl | rfl | rfl
  . exact (show Tryz.prog.wantsStandIn 29 = false by kernel_rfl)
  . exact (show Tryz.prog.wantsStandIn 41 = false by kernel_rfl)
  . exact (show Tryz.prog.wantsStandIn 25 = false by kernel_rfl)
  . exact (show Tryz.prog.wantsStandIn 26 = false by kernel_rfl)
end tableauHands
end Go.Proofs.YtpehekonjdneaaaGreatDoor.Pau
namespace Go.Proofs.YtpehekonjdneaaaGreatDoor
open Go
theorem TableauHands_card : Rows.TableauHandsCardSaid :=
  Claim7.holds_tied_plain_at .later [] _ _ _ _ Pau.tableauHands.said (fun _ h => by cases h) (by kernel_rfl) (fun _ h => by cases h) tableauHands_row_tie rfl ⟨rfl, rfl⟩ (by kernel_rfl) rfl Pau.tableauHands.plain (by kernel_rfl)
end Go.Proofs.YtpehekonjdneaaaGreatDoor
