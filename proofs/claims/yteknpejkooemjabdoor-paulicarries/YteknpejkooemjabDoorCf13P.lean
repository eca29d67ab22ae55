/- PauliCarries answers true for every two strings, every gate's kind and every row of qubits: a product goes through a gate as the product of what goes through, what commutes still does, the inverse gate carries back, and the set-up answers as it should. Condition: the five listed variables lie as the program's text lays them (the card ties them to the text). -/
import Derived.Test.YteknpejkooemjabDoorCf13
import Derived.Test.YteknpejkooemjabDoorX13
import Derived.Test.YteknpejkooemjabDoorDo13
import Derived.Test.YteknpejkooemjabDoorFr13
namespace Go.Proofs.YteknpejkooemjabDoor.Pau
open Go.ChangeShapes Go.WideShapes Go.ChangeAt Go.RowKit Go.Shelf Go.Proofs.YteknpejkooemjabDoor.Oct Go.Proofs.YteknpejkooemjabDoor.Gt
namespace pauliCarries
theorem readable : ∀ t ∈ Tryd.f4.params.toList, Tryd.prog.readableRec t = true ∧ t < Tryd.prog.types.size := by
  rw [Tryd.params4]
  intro t ht
  simp at ht
  rcases ht with rfl | rfl | rfl <;> exact ⟨by kernel_rfl, of_decide_eq_true (by kernel_rfl)⟩
set_option maxRecDepth 100000 in
theorem contract (H : Type) (enc : TypeId × Value → H) (W : World) (base : Nat) (args : Array Value) (ds gs : List (DataW H)) (before : List MemPlace)
    (hval : ∀ (j : Nat) t v, Tryd.f4.params[j]? = some t → args[j]? = some v → Value.okWide Tryd.prog W .any base t v)
    (hW : DataW.Whole enc Tryd.prog Tryd.f4.params.toList Rows.pauliCarriesSpec.vars false W args.toList ds gs before) 
    (hsz : (DataW.weightsEach Tryd.prog (Tryd.f4.params.toList ++ (OpenSpec.ofChange Rows.pauliCarriesSpec).bare.plain.varTypes Tryd.prog) (ds ++ gs)).all (· ≤ reachBytes) = true) (hL : laidMetH Tryd.prog Rows.pauliCarriesRow.laid W) :
    Calls Tryd.prog 4 args W fun e W' => ∃ v, e = .returned v ∧ Rows.pauliCarriesSpec.post enc Tryd.prog Tryd.f4 false true false false W args v W' := by
  have hT : Tp W := tp_of (plain8 hL)
  have hW0 := hW
  obtain ⟨p, q, hA, hV, rfl, _, _⟩ := hW
  obtain ⟨rfl, rfl⟩ := trodVars_none hV
  have hA' : DataW.TrodAll enc Tryd.prog W 0 (fun _ => true) true Tryd.f4.params.toList args.toList ds p := hA
  rw [Tryd.params4] at hA' hval
  have hfin : ∀ dd : List (DataW H), ds = dd → (Rows.pauliCarriesSpec.fn H dd).results = [.lit (.bool true)] ∧ (Rows.pauliCarriesSpec.fn H dd).args = dd ∧ (Rows.pauliCarriesSpec.fn H dd).vars = [] → ∀ W', Below W.heap.size W W' → Rows.pauliCarriesSpec.post enc Tryd.prog Tryd.f4 false true false false W args (.bool true) W' := by
    rintro dd rfl hs W' hb
    exact law_post (enc := enc) Tryd.f4 Rows.pauliCarriesSpec 4 laidOut rfl readable (by kernel_rfl) Tryd.underlying4 hW0 hs hb
  obtain ⟨v0, v1, v2, v3, d0, d1, d2, d3, p0, p1, p2, p3, rfl, rfl, rfl, h0, h1, h2, h3⟩ := trodAll_four hA'
  have hwalk : Calls Tryd.prog 4 #[v0, v1, v2, v3] W fun e W' => e = .returned (.bool true) ∧ Below W.heap.size W W' := by
    obtain ⟨a, rfl, ha⟩ := pauli_open (hval 0 _ v0 rfl rfl) h0
    obtain ⟨b, rfl, hb⟩ := pauli_open (hval 1 _ v1 rfl rfl) h1
    obtain ⟨x2, rfl, rfl, rfl, k2⟩ := open_int Tryd.underlying37 (hval 2 _ v2 rfl rfl) h2
    obtain ⟨ao, c, us, rfl, hus, hcap, hd⟩ := ns_open (hval 3 _ v3 rfl rfl) h3
    have hr : reachBytes = 140737488351232 := rfl
    have hl : us.length ≤ 17592186044414 := by
      rcases hd with ⟨_, rfl⟩ | ⟨elems, spare, rfl, hel⟩
      · exact Nat.zero_le _
      · have hs := sized_slice hsz (j := 3) (t := 38) (e := 3) (elems := elems) (spare := spare) (by rw [Tryd.params4]; rfl) rfl Tryd.underlying38
        rw [bytesOfI, hr] at hs
        omega
    exact xPauliCarries a b ha hb x2 us (by omega) ao c hcap W hT hus
  refine hwalk.mono ?_
  rintro e W' ⟨rfl, hb⟩
  exact ⟨_, rfl, hfin _ rfl ⟨rfl, rfl, rfl⟩ W' hb⟩
theorem laid_met (os : Os) (args : Array Value) : laidMet Tryd.prog Rows.pauliCarriesRow.laid ((laidWorld os).forCall (fun _ _ => 0) ⟨#[], args, []⟩).memory :=
  laid_met8 os args
theorem reads (os : Os) {H : Type} (enc : TypeId × Value → H) : ∃ places, DataW.whole enc Tryd.prog ((laidWorld os).forCall (fun _ _ => 0) ⟨#[], #[.agg #[.int .i64 0, .int .u64 0, .int .u64 0, .int .i64 0], .agg #[.int .i64 0, .int .u64 0, .int .u64 0, .int .i64 0], .int .i64 1, .slice none 0 0], []⟩).memory Tryd.f4.params.toList Rows.pauliCarriesSpec.vars false #[(.agg #[.int .i64 0, .int .u64 0, .int .u64 0, .int .i64 0] : Value), .agg #[.int .i64 0, .int .u64 0, .int .u64 0, .int .i64 0], .int .i64 1, .slice none 0 0].toList 8 = some ([.agg [.lit (.int .i64 0), .lit (.int .u64 0), .lit (.int .u64 0), .lit (.int .i64 0)], .agg [.lit (.int .i64 0), .lit (.int .u64 0), .lit (.int .u64 0), .lit (.int .i64 0)], .lit (.int .i64 1), .nil], [], places) :=
  ⟨[], by kernel_rfl⟩

set_option maxRecDepth 100000 in
theorem lifted (os : Os) (started : os.Started) (H : Type) (enc : TypeId × Value → H) (F : Stop.Interp) :
    ReturnsInHanded {} Tryd.checked os 4 .any ((OpenSpec.ofChange Rows.pauliCarriesSpec).preRow enc Tryd.prog Tryd.f4 Rows.pauliCarriesRow.domain false Rows.pauliCarriesRow.laid) (((OpenSpec.ofChange Rows.pauliCarriesSpec).at F).post enc Tryd.prog Tryd.f4 false true false false) := by
  obtain ⟨places, hx⟩ := reads os enc
  refine returnsInHanded_of_row (C := Tryd.checked) (s := OpenSpec.ofChange Rows.pauliCarriesSpec) own started (by kernel_rfl) Tryd.func4
    (witness_row_shaped (enc := enc) (C := Tryd.checked) false (laidWorld os) #[.agg #[.int .i64 0, .int .u64 0, .int .u64 0, .int .i64 0], .agg #[.int .i64 0, .int .u64 0, .int .u64 0, .int .i64 0], .int .i64 1, .slice none 0 0] (laidWorld_os os) (shaped8 os _) (by kernel_rfl)
      (OpenSpec.preRow_of_cond 8 hx (by kernel_rfl) (fun k hk => by cases hk) (by kernel_rfl) (laid_met os _))) ?_
  intro W base args ds gs before hval hW _ _ hsz hL _ _
  exact contract H enc W base args ds gs before hval hW hsz hL
theorem said : Rows.PauliCarriesSaid :=
  OpenClaim.holds_of_cond 4 Tryd.f4 rfl rfl rfl rfl rfl rfl rfl ⟨rfl, rfl, rfl, rfl, rfl⟩ rfl rfl rfl rfl rfl (by kernel_rfl) Tryd.func4 (by kernel_rfl)
    (of_decide_eq_true (by kernel_rfl)) (by unfold Func.isWrapper; first | (rw [if_pos (by decide +kernel)]; kernel_rfl) | (rw [if_neg (by decide +kernel)]; exact ⟨rfl, rfl⟩))
    (fun os started H enc _ F => by rw [OpenClaim.pre_eq_preRow]; exact lifted os started H enc F)
/-- No parameter wants a stand-in; the program's own looks are off. -/
theorem plain (f : FuncId) (fn : Func) (hf : Tryd.pinned.checked.prog.funcNamed "phasor/phasorlaw13.PauliCarries" = some f) (hfn : Tryd.pinned.checked.prog.funcs[f]? = some fn) :
    false = Tryd.pinned.checked.prog.looks [] ∧ ∀ (j : Nat) t, fn.params[j]? = some t → Tryd.pinned.checked.prog.wantsStandIn t = false := by
  obtain rfl : f = 4 := Option.some.inj ((show Tryd.prog.funcNamed "phasor/phasorlaw13.PauliCarries" = some 4 by kernel_rfl).symm.trans hf) |>.symm
  obtain rfl : fn = Tryd.f4 := (Option.some.inj (Tryd.func4.symm.trans hfn)).symm
  refine ⟨by kernel_rfl, fun j t ht => ?_⟩
  rw [Tryd.params4] at ht
  have hm := Array.mem_of_getElem? ht
  simp at hm
  rcases hm with rfl | rfl | rfl
  · exact (show Tryd.prog.wantsStandIn 24 = false by kernel_rfl)
  · exact (show Tryd.prog.wantsStandIn 37 = false by kernel_rfl)
  · exact (show Tryd.prog.wantsStandIn 38 = false by kernel_rfl)
end pauliCarries
end Go.Proofs.YteknpejkooemjabDoor.Pau
namespace Go.Proofs.YteknpejkooemjabDoor
open Go
/-- The card. -/
theorem PauliCarries_card : Rows.PauliCarriesCardSaid :=
  Claim7.holds_tied_plain_at .later [] _ _ _ _ Pau.pauliCarries.said (fun _ h => by cases h) (by kernel_rfl) (fun _ h => by cases h) pauliCarries_row_tie rfl ⟨rfl, rfl⟩ (by kernel_rfl) rfl Pau.pauliCarries.plain (by kernel_rfl)
end Go.Proofs.YteknpejkooemjabDoor
