/- CircuitSilent answers true for every text and every row of marks that are not great (the upto form): a text and the same with other blanks and comments between its tokens are read alike, and the set-up answers as it should. Condition: the eight listed variables lie as the program's text lays them (the card ties them to the text). -/
import Derived.Test.YtkbodljmkhnebaaGreatDoorS606870c0
import Derived.Test.YtkbodljmkhnebaaGreatDoorS8a1048fc
import Derived.Test.YtkbodljmkhnebaaGreatDoorS682461fe
set_option maxRecDepth 100000
namespace Go.Proofs.YtkbodljmkhnebaaGreatDoor.Cir
open Go.ChangeShapes Go.WideShapes Go.ChangeAt Go.RowKit Go.Shelf Go.Proofs.YtkbodljmkhnebaaGreatDoor.Tok Go.Proofs.YtkbodljmkhnebaaGreatDoor.Gt
namespace circuitSilentUpto
theorem readable : ∀ t ∈ Tryz.f8.params.toList, Tryz.prog.readableRec t = true /\ t < Tryz.prog.types.size := by
  rw [Tryz.params8]
  intro t ht
  simp at ht
  rcases ht with rfl | rfl <;> exact ⟨by kernel_rfl, of_decide_eq_true (by kernel_rfl)⟩
theorem contract (H : Type) (enc : TypeId × Value -> H) (W : World) (base : Nat) (args : Array Value) (ds gs : List (DataW H)) (before : List MemPlace)
    (hval : ∀ (j : Nat) t v, Tryz.f8.params[j]? = some t -> args[j]? = some v -> Value.okWide Tryz.prog W .any base t v)
    (hW : DataW.Whole enc Tryz.prog Tryz.f8.params.toList Rows.circuitSilentSpec.vars false W args.toList ds gs before) (hcond : Rows.uptoSmall H (ds ++ gs) = true) 
    (hsz : (DataW.weightsEach Tryz.prog (Tryz.f8.params.toList ++ (Rows.OpenSpec.upto Rows.circuitSilentSpec).bare.plain.varTypes Tryz.prog) (ds ++ gs)).all (· <= reachBytes) = true) (hL : laidMetH Tryz.prog Rows.circuitSilentUptoRow.laid W) :
    Calls Tryz.prog 8 args W fun e W' => ∃ v, e = .returned v /\ Rows.circuitSilentSpec.post enc Tryz.prog Tryz.f8 false true false false W args v W' := by
  have hT : Tq W := tq_of hL
  have hW0 := hW
  obtain ⟨p, q, hA, hV, rfl, _, _⟩ := hW
  obtain ⟨rfl, rfl⟩ := trodVars_none hV
  have hA' : DataW.TrodAll enc Tryz.prog W 0 (fun _ => true) true Tryz.f8.params.toList args.toList ds p := hA
  rw [Tryz.params8] at hA' hval
  have hfin : ∀ dd : List (DataW H), ds = dd -> (Rows.circuitSilentSpec.fn H dd).results = [.lit (.bool true)] /\ (Rows.circuitSilentSpec.fn H dd).args = dd /\ (Rows.circuitSilentSpec.fn H dd).vars = [] -> ∀ W', Below W.heap.size W W' -> Rows.circuitSilentSpec.post enc Tryz.prog Tryz.f8 false true false false W args (.bool true) W' := by
    rintro dd rfl hs W' hb
    exact law_post (enc := enc) Tryz.f8 Rows.circuitSilentSpec 4 laidOut rfl readable (by kernel_rfl) Tryz.underlying4 hW0 hs hb
  obtain ⟨v0, v1, d0, d1, p0, p1, rfl, rfl, rfl, h0, h1⟩ := trodAll_two hA'
  have hwalk : Calls Tryz.prog 8 #[v0, v1] W fun e W' => e = .returned (.bool true) /\ Below W.heap.size W W' := by
    obtain ⟨s, rfl, rfl, rfl, hs⟩ := Go.ChangeMaps.open_string Tryz.underlying9 (hval 0 _ v0 rfl rfl) h0
    obtain ⟨ao, cp, mk, rfl, hB, hml⟩ := bytes_open (hval 1 _ v1 rfl rfl) h1
    have hb : s.data.toList.length <= 1048576 /\ mk.length <= 1048576 := by
      have h := of_decide_eq_true hcond
      simp only [List.append_nil, Rows.uptoBulkAll, Rows.uptoBulk] at h
      omega
    have e : str s.data.toList = .string s := rfl
    have h := xSilent8 s.data.toList mk (by omega) (by omega) ao cp W aAlive hT hB
    rw [e] at h
    exact h
  refine hwalk.mono ?_
  rintro e W' ⟨rfl, hb⟩
  exact ⟨_, rfl, hfin _ rfl ⟨rfl, rfl, rfl⟩ W' hb⟩
theorem laid_met (os : Os) (args : Array Value) : laidMetH Tryz.prog Rows.circuitSilentUptoRow.laid ((laidWorld os).forCall (fun _ _ => 0) ⟨#[], args, []⟩).memory :=
  laid_met8 os args
theorem reads (os : Os) {H : Type} (enc : TypeId × Value -> H) : ∃ places, DataW.whole enc Tryz.prog ((laidWorld os).forCall (fun _ _ => 0) ⟨#[], #[.string ⟨#[]⟩, .slice none 0 0], []⟩).memory Tryz.f8.params.toList Rows.circuitSilentSpec.vars false #[(.string ⟨#[]⟩ : Value), .slice none 0 0].toList 8 = some ([.lit (.string []), .nil], [], places) :=
  ⟨[], by kernel_rfl⟩
theorem lifted (os : Os) (started : os.Started) (H : Type) (enc : TypeId × Value -> H) (F : Stop.Interp) :
    ReturnsInHanded {} Tryz.checked os 8 .any ((Rows.OpenSpec.upto Rows.circuitSilentSpec).preRow enc Tryz.prog Tryz.f8 Rows.circuitSilentUptoRow.domain false Rows.circuitSilentUptoRow.laid) (((Rows.OpenSpec.upto Rows.circuitSilentSpec).at F).post enc Tryz.prog Tryz.f8 false true false false) := by
  obtain ⟨places, hx⟩ := reads os enc
  refine returnsInHanded_of_row (C := Tryz.checked) (s := Rows.OpenSpec.upto Rows.circuitSilentSpec) own started (by kernel_rfl) Tryz.func8
    (witness_row_shaped (enc := enc) (C := Tryz.checked) false (laidWorld os) #[.string ⟨#[]⟩, .slice none 0 0] (laidWorld_os os) (shaped8 os _) (by kernel_rfl)
      (OpenSpec.preRow_of_cond 8 hx (by kernel_rfl) (fun k hk => by cases hk; kernel_rfl) (by kernel_rfl) (laid_met os _))) ?_
  intro W base args ds gs before hval hW _ hcond hsz hL _ _
  exact contract H enc W base args ds gs before hval hW (hcond _ rfl) hsz hL
theorem said : Rows.CircuitSilentUptoSaid :=
  OpenClaim.holds_of_cond 8 Tryz.f8 rfl rfl rfl rfl rfl rfl rfl ⟨rfl, rfl, rfl, rfl, rfl⟩ rfl rfl rfl rfl rfl (by kernel_rfl) Tryz.func8 (by kernel_rfl)
    (of_decide_eq_true (by kernel_rfl)) (by unfold Func.isWrapper; first | (rw [if_pos (by decide +kernel)]; kernel_rfl) | (rw [if_neg (by decide +kernel)]; exact ⟨rfl, rfl⟩))
    (fun os started H enc _ F => by rw [OpenClaim.pre_eq_preRow]; exact lifted os started H enc F)
theorem plain (f : FuncId) (fn : Func) (hf : Tryz.pinned.checked.prog.funcNamed "phasor/phasorlaw08.CircuitSilent" = some f) (hfn : Tryz.pinned.checked.prog.funcs[f]? = some fn) :
    true = Tryz.pinned.checked.prog.looks [] /\ ∀ (j : Nat) t, fn.params[j]? = some t -> Tryz.pinned.checked.prog.wantsStandIn t = false := by
  obtain rfl : f = 8 := Option.some.inj ((show Tryz.prog.funcNamed "phasor/phasorlaw08.CircuitSilent" = some 8 by kernel_rfl).symm.trans hf) |>.symm
  obtain rfl : fn = Tryz.f8 := (Option.some.inj (Tryz.func8.symm.trans hfn)).symm
  refine ⟨by kernel_rfl, fun j t ht => ?_⟩
  rw [Tryz.params8] at ht
  have hm := Array.mem_of_getElem? ht
  simp at hm
  rcases hm with rfl | rfl
  . exact (show Tryz.prog.wantsStandIn 9 = false by kernel_rfl)
  . exact (show Tryz.prog.wantsStandIn 54 = false by kernel_rfl)
end circuitSilentUpto
end Go.Proofs.YtkbodljmkhnebaaGreatDoor.Cir
namespace Go.Proofs.YtkbodljmkhnebaaGreatDoor
open Go
theorem CircuitSilentUpto_card : Rows.CircuitSilentUptoCardSaid :=
  Claim7.holds_tied_plain_at .later [] _ _ _ _ Cir.circuitSilentUpto.said (fun _ h => by cases h) (by kernel_rfl) (fun _ h => by cases h) circuitSilentUpto_row_tie rfl ⟨rfl, rfl⟩ (by kernel_rfl) rfl Cir.circuitSilentUpto.plain (by kernel_rfl)
end Go.Proofs.YtkbodljmkhnebaaGreatDoor
