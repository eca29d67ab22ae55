/- OctetSums answers true for every row of parts and every slice of bytes, together of a bulk of at most 1048576: Sum of parts is the document's check sum of all bytes, Seal and Open are the document's, what they give is in new memory, and the parts stay. Conditions: that bulk; the two tables of package unicode/utf8 lie as the library's text lays them (the card ties them to the program's text). -/
import Derived.Test.YtckcdgobgpjdkaaDoorSmO
import Derived.Test.YtckcdgobgpjdkaaDoorFrame
import Derived.Test.YtckcdgobgpjdkaaDoorOpens
namespace Go.Proofs.YtckcdgobgpjdkaaDoor.Oct
open Go.ChangeShapes Go.WideShapes Go.ChangeAt Go.RowKit Go.Lib Go.Shelf
namespace octetSumsUpto
theorem readable : ∀ t ∈ Tryd.f6.params.toList, Tryd.prog.readableRec t = true ∧ t < Tryd.prog.types.size := by
  rw [Tryd.params6]
  intro t ht
  simp at ht
  rcases ht with rfl | rfl <;> exact ⟨by kernel_rfl, of_decide_eq_true (by kernel_rfl)⟩
set_option maxRecDepth 100000 in
theorem contract (H : Type) (enc : TypeId × Value → H) (W : World) (base : Nat) (args : Array Value) (ds gs : List (DataW H)) (before : List MemPlace)
    (hval : ∀ (j : Nat) t v, Tryd.f6.params[j]? = some t → args[j]? = some v → Value.okWide Tryd.prog W .any base t v)
    (hW : DataW.Whole enc Tryd.prog Tryd.f6.params.toList Rows.octetSumsSpec.vars false W args.toList ds gs before) (hcond : Rows.uptoSmall H (ds ++ gs) = true) 
    (hsz : (DataW.weightsEach Tryd.prog (Tryd.f6.params.toList ++ (Rows.OpenSpec.upto Rows.octetSumsSpec).bare.plain.varTypes Tryd.prog) (ds ++ gs)).all (· ≤ reachBytes) = true) (hL : laidMetH Tryd.prog Rows.octetSumsUptoRow.laid W) :
    Calls Tryd.prog 6 args W fun e W' => ∃ v, e = .returned v ∧ Rows.octetSumsSpec.post enc Tryd.prog Tryd.f6 false true false false W args v W' := by
  have hT : Tabs W := tabs_of (first_same ▸ Lib.laidMet.reads hL (.tail _ (.head _))) (accept_same ▸ Lib.laidMet.reads hL (.head _))
  have hW0 := hW
  obtain ⟨p, q, hA, hV, rfl, _, _⟩ := hW
  obtain ⟨rfl, rfl⟩ := trodVars_none hV
  have hA' : DataW.TrodAll enc Tryd.prog W 0 (fun _ => true) true Tryd.f6.params.toList args.toList ds p := hA
  rw [Tryd.params6] at hA' hval
  have hfin : ∀ dd : List (DataW H), ds = dd → (Rows.octetSumsSpec.fn H dd).results = [.lit (.bool true)] ∧ (Rows.octetSumsSpec.fn H dd).args = dd ∧ (Rows.octetSumsSpec.fn H dd).vars = [] → ∀ W', Below W.heap.size W W' → Rows.octetSumsSpec.post enc Tryd.prog Tryd.f6 false true false false W args (.bool true) W' := by
    rintro dd rfl hs W' hb
    exact law_post (enc := enc) Tryd.f6 Rows.octetSumsSpec 4 laidOut rfl readable (by kernel_rfl) Tryd.underlying4 hW0 hs hb
  obtain ⟨v0, v1, d0, d1, p0, p1, rfl, rfl, rfl, h0, h1⟩ := trodAll_two hA'
  have hwalk : Calls Tryd.prog 6 #[v0, v1] W fun e W' => e = .returned (.bool true) ∧ Below W.heap.size W W' := by
    have hb : Rows.uptoBulkAll ([d0, d1] ++ []) ≤ 1048576 := of_decide_eq_true hcond
    simp only [List.append_nil, Rows.uptoBulkAll, Nat.add_zero] at hb
    obtain ⟨ao, c, ps, rfl, hps, hlen, htot⟩ := parts_open (hval 0 _ v0 rfl rfl) h0 (by omega)
    obtain ⟨ro, rc, r, rfl, hbs, hlc, _, hd⟩ := bytes_open (hval 1 _ v1 rfl rfl) h1
    have hrl : r.length ≤ 1048576 := by
      rcases hd with ⟨_, rfl⟩ | ⟨elems, spare, rfl, hel⟩
      · exact Nat.zero_le _
      · have q2 := bulk_sl elems spare
        have q3 := bulk_len' elems
        omega
    exact sums_any ao ro c rc ps r W hps hbs hlc hlen htot hrl hT
  refine hwalk.mono ?_
  rintro e W' ⟨rfl, hb⟩
  exact ⟨_, rfl, hfin _ rfl ⟨rfl, rfl, rfl⟩ W' hb⟩
theorem laid_met (os : Os) (args : Array Value) : laidMet Tryd.prog Rows.octetSumsUptoRow.laid ((laidWorld os).forCall (fun _ _ => 0) ⟨#[], args, []⟩).memory :=
  (LaidIn.of_run (l := Rows.octetSumsUptoRow.laid) [2, 1] 8 (by kernel_rfl) (by kernel_rfl) (by kernel_rfl) (by kernel_rfl)).met
theorem reads (os : Os) {H : Type} (enc : TypeId × Value → H) : ∃ places, DataW.whole enc Tryd.prog ((laidWorld os).forCall (fun _ _ => 0) ⟨#[], #[.slice none 0 0, .slice none 0 0], []⟩).memory Tryd.f6.params.toList Rows.octetSumsSpec.vars false #[(.slice none 0 0 : Value), .slice none 0 0].toList 8 = some ([.nil, .nil], [], places) :=
  ⟨[], by kernel_rfl⟩

set_option maxRecDepth 100000 in
theorem lifted (os : Os) (started : os.Started) (H : Type) (enc : TypeId × Value → H) (F : Stop.Interp) :
    ReturnsInHanded {} Tryd.checked os 6 .any ((Rows.OpenSpec.upto Rows.octetSumsSpec).preRow enc Tryd.prog Tryd.f6 Rows.octetSumsUptoRow.domain false Rows.octetSumsUptoRow.laid) (((Rows.OpenSpec.upto Rows.octetSumsSpec).at F).post enc Tryd.prog Tryd.f6 false true false false) := by
  obtain ⟨places, hx⟩ := reads os enc
  refine returnsInHanded_of_row (C := Tryd.checked) (s := Rows.OpenSpec.upto Rows.octetSumsSpec) own started (by kernel_rfl) Tryd.func6
    (witness_row_at (enc := enc) (C := Tryd.checked) false (laidWorld os) #[.slice none 0 0, .slice none 0 0] rfl (by kernel_rfl) (by kernel_rfl) (by kernel_rfl)
      (OpenSpec.preRow_of_cond 8 hx (by kernel_rfl) (fun k hk => by cases hk; kernel_rfl) (by kernel_rfl) (laid_met os _))) ?_
  intro W base args ds gs before hval hW _ hcond hsz hL _ _
  exact contract H enc W base args ds gs before hval hW (hcond _ rfl) hsz hL
theorem said : Rows.OctetSumsUptoSaid :=
  OpenClaim.holds_of_cond 6 Tryd.f6 rfl rfl rfl rfl rfl rfl rfl ⟨rfl, rfl, rfl, rfl, rfl⟩ rfl rfl rfl rfl rfl (by kernel_rfl) Tryd.func6 (by kernel_rfl)
    (of_decide_eq_true (by kernel_rfl)) (by unfold Func.isWrapper; first | (rw [if_pos (by decide +kernel)]; kernel_rfl) | (rw [if_neg (by decide +kernel)]; exact ⟨rfl, rfl⟩))
    (fun os started H enc _ F => by rw [OpenClaim.pre_eq_preRow]; exact lifted os started H enc F)
/-- No parameter wants a stand-in; the program's own looks are off. -/
theorem plain (f : FuncId) (fn : Func) (hf : Tryd.pinned.checked.prog.funcNamed "phasor/phasorlaw01.OctetSums" = some f) (hfn : Tryd.pinned.checked.prog.funcs[f]? = some fn) :
    false = Tryd.pinned.checked.prog.looks [] ∧ ∀ (j : Nat) t, fn.params[j]? = some t → Tryd.pinned.checked.prog.wantsStandIn t = false := by
  obtain rfl : f = 6 := Option.some.inj ((show Tryd.prog.funcNamed "phasor/phasorlaw01.OctetSums" = some 6 by kernel_rfl).symm.trans hf) |>.symm
  obtain rfl : fn = Tryd.f6 := (Option.some.inj (Tryd.func6.symm.trans hfn)).symm
  refine ⟨by kernel_rfl, fun j t ht => ?_⟩
  rw [Tryd.params6] at ht
  have hm := Array.mem_of_getElem? ht
  simp at hm
  rcases hm with rfl | rfl
  · exact (show Tryd.prog.wantsStandIn 64 = false by kernel_rfl)
  · exact (show Tryd.prog.wantsStandIn 24 = false by kernel_rfl)
end octetSumsUpto
end Go.Proofs.YtckcdgobgpjdkaaDoor.Oct
namespace Go.Proofs.YtckcdgobgpjdkaaDoor
open Go
/-- The card. -/
theorem OctetSumsUpto_card : Rows.OctetSumsUptoCardSaid :=
  Claim7.holds_tied_plain_at .later [] _ _ _ _ Oct.octetSumsUpto.said (fun _ h => by cases h) (by kernel_rfl) (fun _ h => by cases h) octetSumsUpto_row_tie rfl ⟨rfl, rfl⟩ (by kernel_rfl) rfl Oct.octetSumsUpto.plain (by kernel_rfl)
end Go.Proofs.YtckcdgobgpjdkaaDoor
