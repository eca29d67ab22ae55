import Derived.Test.YtllfplkefbhnfaaDoorK8e2ccf06
import Derived.Lib.IndexBytes
import Derived.Shelf.Small.Wraps
set_option maxRecDepth 100000
set_option maxHeartbeats 2000000
namespace Go.Proofs.YtllfplkefbhnfaaDoor.Pau
open Go.RowKit Go.Shelf Go.Proofs.YtllfplkefbhnfaaDoor.Oct Go.Proofs.YtllfplkefbhnfaaDoor.Gt
def str (l : List UInt8) : Value := .string ⟨l.toArray⟩
theorem size_str (l : List UInt8) : (⟨l.toArray⟩ : ByteArray).size = l.length := by show l.toArray.size = _; simp
theorem ix_at (l : List UInt8) (k : Nat) (b : UInt8) (h : l[k]? = some b) (w : World) : (Instr.index 9 (.string ⟨l.toArray⟩) (.int .i64 (k : Int))).run Tryd.prog w = .ok (.int .u8 (b.toNat : Int)) w := by
  have hk : k < l.length := (List.getElem?_eq_some_iff.1 h).1
  have hi : (0 : Int) <= (k : Int) /\ (k : Int) < ((⟨l.toArray⟩ : ByteArray).size : Int) := ⟨by omega, by rw [size_str]; omega⟩
  rw [run_index_string w 9 _ .i64 (k : Int) Tryd.underlying9, dif_pos hi]
  have e : (⟨l.toArray⟩ : ByteArray)[(k : Int).toNat]'(by rw [size_str]; omega) = b := by
    show l.toArray[(k : Int).toNat]'(by simp; omega) = b
    simp only [Int.toNat_natCast, List.getElem_toArray]
    rw [List.getElem?_eq_getElem hk] at h
    exact Option.some.inj h
  rw [e]
theorem sCutP (l p : List UInt8) (w : World) :
    Calls Tryd.prog 76 #[.string ⟨l.toArray⟩, .string ⟨p.toArray⟩] w fun e w' => e = .returned (.tuple #[.string ⟨(Lib.trimPrefix l p).toArray⟩, .bool (Lib.hasPrefix l p)]) /\ w' = w :=
  Any.strings_CutPrefix Tryd.laysCutPrefix ⟨l.toArray⟩ ⟨p.toArray⟩ w
theorem sIB (l : List UInt8) (c : UInt8) (w : World) : Calls Tryd.prog 75 #[.string ⟨l.toArray⟩, .int .u8 (c.toNat : Int)] w fun e w' => e = .returned (.int .i64 (Lib.indexByte l c)) /\ w' = w := by
  have c1 := fun W => Any.stringslite_IndexByte Tryd.laysIB ⟨l.toArray⟩ (c.toNat : Int) W
  rw [show (ByteArray.mk l.toArray).data.toList = l from rfl, show ((c.toNat : Int)).toNat.toUInt8 = c by simp] at c1
  generalize Lib.indexByte l c = r at *
  generalize (⟨l.toArray⟩ : ByteArray) = s at *
  go_enter Tryd.func75, Tryd.ntmps75
  go_wp2_with (go_at_call 77; refine (c1 _).mono ?_; rintro e w1 ⟨rfl, hw⟩; obtain rfl := hw.symm)
  go_ret
  exact ⟨rfl, rfl⟩
def cutP (l : List UInt8) : Int × List UInt8 :=
  if Lib.hasPrefix l (sg 3) = true then (3, Lib.trimPrefix l (sg 3)) else if Lib.hasPrefix l (sg 2) = true then (2, Lib.trimPrefix l (sg 2)) else if Lib.hasPrefix l (sg 1) = true then (1, Lib.trimPrefix l (sg 1)) else if Lib.hasPrefix l (sg 0) = true then (0, Lib.trimPrefix l (sg 0)) else (-1, [])
theorem pCut (l : List UInt8) (w : World) (hT : Ts w) : Calls Tryd.prog 74 #[str l] w fun e w' => e = .returned (.tuple #[.int .i64 (cutP l).1, str (cutP l).2]) /\ w' = w := by
  have c3 := fun W => sCutP l (sg 3) W
  have c2 := fun W => sCutP l (sg 2) W
  have c1 := fun W => sCutP l (sg 1) W
  have c0 := fun W => sCutP l (sg 0) W
  have t3 := hT 3 (by decide)
  have t2 := hT 2 (by decide)
  have t1 := hT 1 (by decide)
  have t0 := hT 0 (by decide)
  have hgl := World.block_lt_of_cell? _ _ t0
  unfold cutP str
  clear hT
  generalize (⟨l.toArray⟩ : ByteArray) = s at *
  generalize (⟨(sg 3).toArray⟩ : ByteArray) = g3 at *
  generalize (⟨(sg 2).toArray⟩ : ByteArray) = g2 at *
  generalize (⟨(sg 1).toArray⟩ : ByteArray) = g1 at *
  generalize (⟨(sg 0).toArray⟩ : ByteArray) = g0 at *
  cases h3 : Lib.hasPrefix l (sg 3)
  . cases h2 : Lib.hasPrefix l (sg 2)
    . cases h1 : Lib.hasPrefix l (sg 1)
      . cases h0 : Lib.hasPrefix l (sg 0)
        . rw [h3] at c3
          rw [h2] at c2
          rw [h1] at c1
          rw [h0] at c0
          simp only [Bool.false_eq_true, if_false]
          go_enter Tryd.func74, Tryd.ntmps74
          go_wp2_with fail
          refine wp_loop_rounds 6 ?_
          rw [rounds_succ]
          go_wp2_with (go_at_call 76; (with_reducible refine Calls.mono (c3 _) ?_); rintro e w1 ⟨rfl, hw⟩; obtain rfl := hw.symm)
          rw [rounds_succ]
          go_wp2_with (go_at_call 76; (with_reducible refine Calls.mono (c2 _) ?_); rintro e w1 ⟨rfl, hw⟩; obtain rfl := hw.symm)
          rw [rounds_succ]
          go_wp2_with (go_at_call 76; (with_reducible refine Calls.mono (c1 _) ?_); rintro e w1 ⟨rfl, hw⟩; obtain rfl := hw.symm)
          rw [rounds_succ]
          go_wp2_with (go_at_call 76; (with_reducible refine Calls.mono (c0 _) ?_); rintro e w1 ⟨rfl, hw⟩; obtain rfl := hw.symm)
          rw [rounds_succ]
          go_wp2_with fail
          go_ret2
          exact ⟨rfl, rfl⟩
        . rw [h3] at c3
          rw [h2] at c2
          rw [h1] at c1
          rw [h0] at c0
          simp only [Bool.false_eq_true, if_false, if_true]
          generalize (⟨(Lib.trimPrefix l (sg 0)).toArray⟩ : ByteArray) = r at *
          go_enter Tryd.func74, Tryd.ntmps74
          go_wp2_with fail
          refine wp_loop_rounds 5 ?_
          rw [rounds_succ]
          go_wp2_with (go_at_call 76; (with_reducible refine Calls.mono (c3 _) ?_); rintro e w1 ⟨rfl, hw⟩; obtain rfl := hw.symm)
          rw [rounds_succ]
          go_wp2_with (go_at_call 76; (with_reducible refine Calls.mono (c2 _) ?_); rintro e w1 ⟨rfl, hw⟩; obtain rfl := hw.symm)
          rw [rounds_succ]
          go_wp2_with (go_at_call 76; (with_reducible refine Calls.mono (c1 _) ?_); rintro e w1 ⟨rfl, hw⟩; obtain rfl := hw.symm)
          rw [rounds_succ]
          go_wp2_with (go_at_call 76; (with_reducible refine Calls.mono (c0 _) ?_); rintro e w1 ⟨rfl, hw⟩; obtain rfl := hw.symm)
          go_ret2
          exact ⟨rfl, rfl⟩
      . rw [h3] at c3
        rw [h2] at c2
        rw [h1] at c1
        simp only [Bool.false_eq_true, if_false, if_true]
        generalize (⟨(Lib.trimPrefix l (sg 1)).toArray⟩ : ByteArray) = r at *
        go_enter Tryd.func74, Tryd.ntmps74
        go_wp2_with fail
        refine wp_loop_rounds 4 ?_
        rw [rounds_succ]
        go_wp2_with (go_at_call 76; (with_reducible refine Calls.mono (c3 _) ?_); rintro e w1 ⟨rfl, hw⟩; obtain rfl := hw.symm)
        rw [rounds_succ]
        go_wp2_with (go_at_call 76; (with_reducible refine Calls.mono (c2 _) ?_); rintro e w1 ⟨rfl, hw⟩; obtain rfl := hw.symm)
        rw [rounds_succ]
        go_wp2_with (go_at_call 76; (with_reducible refine Calls.mono (c1 _) ?_); rintro e w1 ⟨rfl, hw⟩; obtain rfl := hw.symm)
        go_ret2
        exact ⟨rfl, rfl⟩
    . rw [h3] at c3
      rw [h2] at c2
      simp only [Bool.false_eq_true, if_false, if_true]
      generalize (⟨(Lib.trimPrefix l (sg 2)).toArray⟩ : ByteArray) = r at *
      go_enter Tryd.func74, Tryd.ntmps74
      go_wp2_with fail
      refine wp_loop_rounds 3 ?_
      rw [rounds_succ]
      go_wp2_with (go_at_call 76; (with_reducible refine Calls.mono (c3 _) ?_); rintro e w1 ⟨rfl, hw⟩; obtain rfl := hw.symm)
      rw [rounds_succ]
      go_wp2_with (go_at_call 76; (with_reducible refine Calls.mono (c2 _) ?_); rintro e w1 ⟨rfl, hw⟩; obtain rfl := hw.symm)
      go_ret2
      exact ⟨rfl, rfl⟩
  . rw [h3] at c3
    simp only [if_true]
    generalize (⟨(Lib.trimPrefix l (sg 3)).toArray⟩ : ByteArray) = r at *
    go_enter Tryd.func74, Tryd.ntmps74
    go_wp2_with fail
    refine wp_loop_rounds 2 ?_
    rw [rounds_succ]
    go_wp2_with (go_at_call 76; (with_reducible refine Calls.mono (c3 _) ?_); rintro e w1 ⟨rfl, hw⟩; obtain rfl := hw.symm)
    go_ret2
    exact ⟨rfl, rfl⟩
end Go.Proofs.YtllfplkefbhnfaaDoor.Pau
