import Derived.Test.YtaggifpnamjghaaDoorKf7e00df1
import Derived.Lib.IndexBytes
import Derived.Shelf.Small.Wraps
set_option maxRecDepth 100000
set_option maxHeartbeats 4000000
namespace Go.Proofs.YtaggifpnamjghaaDoor.Pau
open Go.RowKit Go.Shelf Go.Proofs.YtaggifpnamjghaaDoor.Oct Go.Proofs.YtaggifpnamjghaaDoor.Gt
def str (l : List UInt8) : Value := .string ⟨l.toArray⟩
theorem size_str (l : List UInt8) : (⟨l.toArray⟩ : ByteArray).size = l.length := by show l.toArray.size = _; simp
theorem ix_at (l : List UInt8) (k : Nat) (b : UInt8) (h : l[k]? = some b) (w : World) : (Instr.index 9 (.string ⟨l.toArray⟩) (.int .i64 (k : Int))).run Tryd.prog w = .ok (.int .u8 (b.toNat : Int)) w := by
  have hk : k < l.length := (List.getElem?_eq_some_iff.1 h).1
  have hi : (0 : Int) <= (k : Int) /\ (k : Int) < ((⟨l.toArray⟩ : ByteArray).size : Int) := ⟨by omega, by rw [size_str]; omega⟩
  rw [run_index_string w 9 _ .i64 (k : Int) Tryd.underlying9, dif_pos hi]
  have e : (⟨l.toArray⟩ : ByteArray)[(k : Int).toNat]'(by rw [size_str]; omega) = b := by
    show l.toArray[(k : Int).toNat]'(by simp; omega) = b
    simp only [Int.toNat_natCast, List.getElem_toArray]
    rw [List.getElem?_eq_getElem hk] at h
    exact Option.some.inj h
  rw [e]
theorem sCutP (l p : List UInt8) (w : World) :
    Calls Tryd.prog 83 #[.string ⟨l.toArray⟩, .string ⟨p.toArray⟩] w fun e w' => e = .returned (.tuple #[.string ⟨(Lib.trimPrefix l p).toArray⟩, .bool (Lib.hasPrefix l p)]) /\ w' = w :=
  Any.strings_CutPrefix Tryd.laysCutPrefix ⟨l.toArray⟩ ⟨p.toArray⟩ w
theorem sIB (l : List UInt8) (c : UInt8) (w : World) : Calls Tryd.prog 82 #[.string ⟨l.toArray⟩, .int .u8 (c.toNat : Int)] w fun e w' => e = .returned (.int .i64 (Lib.indexByte l c)) /\ w' = w := by
  have c1 := fun W => Any.stringslite_IndexByte Tryd.laysIB ⟨l.toArray⟩ (c.toNat : Int) W
  rw [show (ByteArray.mk l.toArray).data.toList = l from rfl, show ((c.toNat : Int)).toNat.toUInt8 = c by simp] at c1
  generalize Lib.indexByte l c = r at *
  generalize (⟨l.toArray⟩ : ByteArray) = s at *
  go_enter Tryd.func82, Tryd.ntmps82
  go_wp2_with (go_at_call 84; refine (c1 _).mono ?_; rintro e w1 ⟨rfl, hw⟩; obtain rfl := hw.symm)
  go_ret
  exact ⟨rfl, rfl⟩
def cutP (l : List UInt8) : Int × List UInt8 :=
  if Lib.hasPrefix l (sg 3) = true then (3, Lib.trimPrefix l (sg 3)) else if Lib.hasPrefix l (sg 2) = true then (2, Lib.trimPrefix l (sg 2)) else if Lib.hasPrefix l (sg 1) = true then (1, Lib.trimPrefix l (sg 1)) else if Lib.hasPrefix l (sg 0) = true then (0, Lib.trimPrefix l (sg 0)) else (-1, [])
theorem pCut (l : List UInt8) (w : World) (hT : Ts w) : Calls Tryd.prog 81 #[str l] w fun e w' => e = .returned (.tuple #[.int .i64 (cutP l).1, str (cutP l).2]) /\ w' = w := by
  have c3 := fun W => sCutP l (sg 3) W
  have c2 := fun W => sCutP l (sg 2) W
  have c1 := fun W => sCutP l (sg 1) W
  have c0 := fun W => sCutP l (sg 0) W
  have t3 := hT 3 (by decide)
  have t2 := hT 2 (by decide)
  have t1 := hT 1 (by decide)
  have t0 := hT 0 (by decide)
  have hgl := World.block_lt_of_cell? _ _ t0
  unfold cutP str
  clear hT
  generalize (⟨l.toArray⟩ : ByteArray) = s at *
  generalize (⟨(sg 3).toArray⟩ : ByteArray) = g3 at *
  generalize (⟨(sg 2).toArray⟩ : ByteArray) = g2 at *
  generalize (⟨(sg 1).toArray⟩ : ByteArray) = g1 at *
  generalize (⟨(sg 0).toArray⟩ : ByteArray) = g0 at *
  cases h3 : Lib.hasPrefix l (sg 3)
  . cases h2 : Lib.hasPrefix l (sg 2)
    . cases h1 : Lib.hasPrefix l (sg 1)
      . cases h0 : Lib.hasPrefix l (sg 0)
        . rw [h3] at c3
          rw [h2] at c2
          rw [h1] at c1
          rw [h0] at c0
          simp only [Bool.false_eq_true, if_false]
          go_enter Tryd.func81, Tryd.ntmps81
          go_wp2_with fail
          refine wp_loop_rounds 6 ?_
          rw [rounds_succ]
          go_wp2_with (go_at_call 83; (with_reducible refine Calls.mono (c3 _) ?_); rintro e w1 ⟨rfl, hw⟩; obtain rfl := hw.symm)
          rw [rounds_succ]
          go_wp2_with (go_at_call 83; (with_reducible refine Calls.mono (c2 _) ?_); rintro e w1 ⟨rfl, hw⟩; obtain rfl := hw.symm)
          rw [rounds_succ]
          go_wp2_with (go_at_call 83; (with_reducible refine Calls.mono (c1 _) ?_); rintro e w1 ⟨rfl, hw⟩; obtain rfl := hw.symm)
          rw [rounds_succ]
          go_wp2_with (go_at_call 83; (with_reducible refine Calls.mono (c0 _) ?_); rintro e w1 ⟨rfl, hw⟩; obtain rfl := hw.symm)
          rw [rounds_succ]
          go_wp2_with fail
          go_ret2
          exact ⟨rfl, rfl⟩
        . rw [h3] at c3
          rw [h2] at c2
          rw [h1] at c1
          rw [h0] at c0
          simp only [Bool.false_eq_true, if_false, if_true]
          generalize (⟨(Lib.trimPrefix l (sg 0)).toArray⟩ : ByteArray) = r at *
          go_enter Tryd.func81, Tryd.ntmps81
          go_wp2_with fail
          refine wp_loop_rounds 5 ?_
          rw [rounds_succ]
          go_wp2_with (go_at_call 83; (with_reducible refine Calls.mono (c3 _) ?_); rintro e w1 ⟨rfl, hw⟩; obtain rfl := hw.symm)
          rw [rounds_succ]
          go_wp2_with (go_at_call 83; (with_reducible refine Calls.mono (c2 _) ?_); rintro e w1 ⟨rfl, hw⟩; obtain rfl := hw.symm)
          rw [rounds_succ]
          go_wp2_with (go_at_call 83; (with_reducible refine Calls.mono (c1 _) ?_); rintro e w1 ⟨rfl, hw⟩; obtain rfl := hw.symm)
          rw [rounds_succ]
          go_wp2_with (go_at_call 83; (with_reducible refine Calls.mono (c0 _) ?_); rintro e w1 ⟨rfl, hw⟩; obtain rfl := hw.symm)
          go_ret2
          exact ⟨rfl, rfl⟩
      . rw [h3] at c3
        rw [h2] at c2
        rw [h1] at c1
        simp only [Bool.false_eq_true, if_false, if_true]
        generalize (⟨(Lib.trimPrefix l (sg 1)).toArray⟩ : ByteArray) = r at *
        go_enter Tryd.func81, Tryd.ntmps81
        go_wp2_with fail
        refine wp_loop_rounds 4 ?_
        rw [rounds_succ]
        go_wp2_with (go_at_call 83; (with_reducible refine Calls.mono (c3 _) ?_); rintro e w1 ⟨rfl, hw⟩; obtain rfl := hw.symm)
        rw [rounds_succ]
        go_wp2_with (go_at_call 83; (with_reducible refine Calls.mono (c2 _) ?_); rintro e w1 ⟨rfl, hw⟩; obtain rfl := hw.symm)
        rw [rounds_succ]
        go_wp2_with (go_at_call 83; (with_reducible refine Calls.mono (c1 _) ?_); rintro e w1 ⟨rfl, hw⟩; obtain rfl := hw.symm)
        go_ret2
        exact ⟨rfl, rfl⟩
    . rw [h3] at c3
      rw [h2] at c2
      simp only [Bool.false_eq_true, if_false, if_true]
      generalize (⟨(Lib.trimPrefix l (sg 2)).toArray⟩ : ByteArray) = r at *
      go_enter Tryd.func81, Tryd.ntmps81
      go_wp2_with fail
      refine wp_loop_rounds 3 ?_
      rw [rounds_succ]
      go_wp2_with (go_at_call 83; (with_reducible refine Calls.mono (c3 _) ?_); rintro e w1 ⟨rfl, hw⟩; obtain rfl := hw.symm)
      rw [rounds_succ]
      go_wp2_with (go_at_call 83; (with_reducible refine Calls.mono (c2 _) ?_); rintro e w1 ⟨rfl, hw⟩; obtain rfl := hw.symm)
      go_ret2
      exact ⟨rfl, rfl⟩
  . rw [h3] at c3
    simp only [if_true]
    generalize (⟨(Lib.trimPrefix l (sg 3)).toArray⟩ : ByteArray) = r at *
    go_enter Tryd.func81, Tryd.ntmps81
    go_wp2_with fail
    refine wp_loop_rounds 2 ?_
    rw [rounds_succ]
    go_wp2_with (go_at_call 83; (with_reducible refine Calls.mono (c3 _) ?_); rintro e w1 ⟨rfl, hw⟩; obtain rfl := hw.symm)
    go_ret2
    exact ⟨rfl, rfl⟩
def cx (b : UInt8) : Nat := if b = 88 ∨ b = 89 then 1 else 0
def cz (b : UInt8) : Nat := if b = 90 ∨ b = 89 then 1 else 0
def okB (b : UInt8) : Bool := decide (b = 73 ∨ b = 88 ∨ b = 89 ∨ b = 90)
def rd (f : UInt8 -> Nat) (l : List UInt8) : Nat -> Nat
  | 0 => 0
  | k + 1 => rd f l k + f (l.getD k 0) * 2 ^ k
theorem cx_le (b : UInt8) : cx b <= 1 := by unfold cx; split <;> omega
theorem cz_le (b : UInt8) : cz b <= 1 := by unfold cz; split <;> omega
theorem rd_lt {f : UInt8 -> Nat} (hf : ∀ b, f b <= 1) (l : List UInt8) : ∀ k, rd f l k < 2 ^ k
  | 0 => by simp [rd]
  | k + 1 => by
    have h1 := rd_lt hf l k
    have h2 := hf (l.getD k 0)
    rw [rd, Nat.pow_succ]
    have : f (l.getD k 0) * 2 ^ k <= 1 * 2 ^ k := Nat.mul_le_mul_right _ h2
    omega
theorem rd_or {f : UInt8 -> Nat} (hf : ∀ b, f b <= 1) (l : List UInt8) (k : Nat) : rd f l k ||| f (l.getD k 0) * 2 ^ k = rd f l (k + 1) := by
  have h1 := rd_lt hf l k
  have := Nat.two_pow_add_eq_or_of_lt h1 (f (l.getD k 0))
  rw [rd, Nat.or_comm, Nat.mul_comm, ← this, Nat.add_comm]
def parR (l : List UInt8) : P × Int := if (cutP l).1 < 0 ∨ 64 < (cutP l).2.length ∨ (cutP l).2.all okB = false then (oP, 130) else (⟨((cutP l).2.length : Int), rd cx (cutP l).2 (cutP l).2.length, rd cz (cutP l).2 (cutP l).2.length, (cutP l).1⟩, 0)
theorem index_ok (b : UInt8) : (okB b = false /\ Lib.indexByte [73, 88, 90, 89] b = -1) ∨ (okB b = true /\ ∃ u v : Nat, Lib.indexByte [73, 88, 90, 89] b = ((u + 2 * v : Nat) : Int) /\ cx b = u /\ cz b = v /\ u < 2 /\ v < 2) := by
  by_cases h1 : b = 73
  . subst h1; exact .inr ⟨by decide, 0, 0, by decide, by decide, by decide, by decide, by decide⟩
  . by_cases h2 : b = 88
    . subst h2; exact .inr ⟨by decide, 1, 0, by decide, by decide, by decide, by decide, by decide⟩
    . by_cases h3 : b = 90
      . subst h3; exact .inr ⟨by decide, 0, 1, by decide, by decide, by decide, by decide, by decide⟩
      . by_cases h4 : b = 89
        . subst h4; exact .inr ⟨by decide, 1, 1, by decide, by decide, by decide, by decide, by decide⟩
        . refine .inl ⟨?_, ?_⟩
          . unfold okB
            exact decide_eq_false (by rintro (h | h | h | h) <;> contradiction)
          . have e1 : ¬ 73 = b := fun e => h1 e.symm
            have e2 : ¬ 88 = b := fun e => h2 e.symm
            have e3 : ¬ 90 = b := fun e => h3 e.symm
            have e4 : ¬ 89 = b := fun e => h4 e.symm
            simp [Lib.indexByte, e1, e2, e3, e4]
theorem pParse_out (l : List UInt8) (hc : (cutP l).1 < 0 ∨ 64 < (cutP l).2.length) (w : World) (hT : Ts w) : Calls Tryd.prog 80 #[str l] w fun e w' => e = .returned (.tuple #[pV oP, .int .i64 130]) /\ Below w.heap.size w w' := by
  have c1 := fun W (h : Below w.heap.size w W) => pCut l W (hT.below h)
  have hR := At4.new w (.int .i64 0) (.int .u64 0) (.int .u64 0) (.int .i64 0)
  have HB := hide (bnew w (.cells #[.int .i64 0, .int .u64 0, .int .u64 0, .int .i64 0] 32))
  generalize (cutP l).1 = ph at *
  generalize (cutP l).2 = row at *
  have hsz := size_str row
  unfold oP pV
  unfold str at *
  simp only at *
  generalize (⟨l.toArray⟩ : ByteArray) = s at *
  generalize (⟨row.toArray⟩ : ByteArray) = r at *
  generalize row.length = m at *
  unfold At4 at hR
  by_cases h0 : ph < 0
  . have d0 : decide (ph < 0) = true := decide_eq_true h0
    go_enter Tryd.func80, Tryd.ntmps80
    go_wp2_with (first
      | (go_at_call 81; refine (c1 _ HB.out).mono ?_; rintro e w1 ⟨rfl, hw⟩; obtain rfl := hw.symm)
      | (refine wpList_store_row rfl _ _ _ rfl w.heap.size _ rfl rfl _ _ hR (by exact infoP) (by rfl) (allP _ _ _ _) ?_))
    refine bodyPost_ret (results_ct rfl _ _ w.heap.size _ _ _ _ rfl (setRow_heap _ _ _ _ _ _ hR) Tryd.underlying32 rfl (by exact infoP)) rfl ?_
    exact ⟨rfl, below_setRow HB.out (Nat.le_refl _) _⟩
  . have d0 : decide (ph < 0) = false := decide_eq_false h0
    have d1 : decide (64 < (m : Int)) = true := decide_eq_true (by omega)
    go_enter Tryd.func80, Tryd.ntmps80
    go_wp2_with (first
      | (go_at_call 81; refine (c1 _ HB.out).mono ?_; rintro e w1 ⟨rfl, hw⟩; obtain rfl := hw.symm)
      | (refine wpList_store_row rfl _ _ _ rfl w.heap.size _ rfl rfl _ _ hR (by exact infoP) (by rfl) (allP _ _ _ _) ?_))
    refine bodyPost_ret (results_ct rfl _ _ w.heap.size _ _ _ _ rfl (setRow_heap _ _ _ _ _ _ hR) Tryd.underlying32 rfl (by exact infoP)) rfl ?_
    exact ⟨rfl, below_setRow HB.out (Nat.le_refl _) _⟩
end Go.Proofs.YtaggifpnamjghaaDoor.Pau
