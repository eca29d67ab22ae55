/- Package token: Name, draft and Write, as they are walked. -/
import Derived.Test.YtinbbcojilogeaaDoorKj
import Derived.Deep.RegionWith
import Derived.Lib.AppendIntMem
import Derived.Lib.ItoaLen
namespace Go.Proofs.YtinbbcojilogeaaDoor.Tok
open Go.RowKit Go.Shelf Go.Proofs.YtinbbcojilogeaaDoor.Oct

/-- The table that Itoa reads. -/
def T10 (w : World) : Prop := Lib.TabIs Tryd.prog w "internal/strconv.uint64pow10" .u64 Lib.pow10Tab
theorem T10.below {w w' : World} (h : T10 w) (hb : Below w.heap.size w w') : T10 w' := Lib.tabBelow_of_tabIs h w' hb
/-- What the program's variables hold. -/
structure Tx (w : World) : Prop where
  tw : Tw w
  ten : T10 w
theorem Tx.below {w w' : World} (h : Tx w) (hb : Below w.heap.size w w') : Tx w' := ⟨h.tw.below hb, h.ten.below hb⟩
theorem below_grow (w : World) (k : Nat) (os : Array Obj) : Below w.heap.size w (Go.Sort.grow (w.drewN k) os) := by
  refine ⟨rfl, rfl, rfl, ?_, ?_⟩
  · show w.heap.size ≤ (w.heap ++ os).size
    rw [Array.size_append]
    omega
  · intro i hi
    show (w.heap ++ os)[i]? = w.heap[i]?
    rw [Array.getElem?_append_left hi]
theorem nItoa (n : Int) (h0 : -9223372036854775808 ≤ n) (h1 : n ≤ 9223372036854775807) (w : World) (h : T10 w) :
    Calls Tryd.prog 34 #[.int .i64 n] w fun e w' => e = .returned (.string ⟨(Lib.itoa n).toArray⟩) ∧ Below w.heap.size w w' :=
  (Any.strconv_Itoa Tryd.laysItoa n h0 h1 w h).mono fun _ _ ⟨he, k, os, hw⟩ => ⟨he, hw ▸ below_grow w k os⟩

theorem nName' (l : List UInt8) (hl : l.length ≤ 140737488355328) (w : World) (hT : Tw w) :
    Calls Tryd.prog 11 #[str l] w fun e w' => e = .returned (.bool (wholeB l 1 l 0)) ∧ Below w.heap.size w w' := by
  have c := nWhole l hl 1 0 0 0 0 l w hT
  unfold str at *
  generalize wholeB l 1 l 0 = x at *
  generalize (⟨l.toArray⟩ : ByteArray) = s at *
  go_enter Tryd.func11, Tryd.ntmps11
  go_wp2_with fail
  refine c.mono ?_
  rintro e w1 ⟨rfl, hb1⟩
  go_wp2_with fail
  go_ret
  exact ⟨rfl, hb1⟩

/-- What a token would be written as. -/
def draftL (kd : Int) (tx : List UInt8) (nm : Int) : List UInt8 := if kd = 2 then Lib.itoa nm else if kd = 4 then 34 :: (tx ++ [34]) else tx
theorem cat_str (a b : List UInt8) : (⟨a.toArray⟩ : ByteArray) ++ ⟨b.toArray⟩ = ⟨(a ++ b).toArray⟩ := by
  apply ByteArray.ext
  simp
set_option maxHeartbeats 1000000 in
theorem nDraft (kd nm o1 o2 o3 : Int) (tx : List UInt8) (hx : tx.length ≤ 140737488355300) (h0 : -9223372036854775808 ≤ nm) (h1 : nm ≤ 9223372036854775807) (w : World) (hT : T10 w) :
    Calls Tryd.prog 33 #[.agg #[.int .i64 kd, .string ⟨tx.toArray⟩, .int .i64 nm, .int .i64 o1, .int .i64 o2, .int .i64 o3]] w fun e w' => e = .returned (.string ⟨(draftL kd tx nm).toArray⟩) ∧ Below w.heap.size w w' := by
  unfold draftL
  by_cases h2 : kd = 2
  · subst h2
    rw [if_pos rfl]
    have c := fun o => nItoa nm h0 h1 (w.alloc o) (hT.below (below_new w o))
    generalize (⟨tx.toArray⟩ : ByteArray) = s at *
    generalize (⟨(Lib.itoa nm).toArray⟩ : ByteArray) = s2 at *
    go_enter Tryd.func33, Tryd.ntmps33
    go_wp2_with fail
    refine (c _).mono ?_
    rintro e w1 ⟨rfl, hb1⟩
    go_wp2_with fail
    go_ret
    exact ⟨rfl, (below_new _ _).trans (hb1.mono (by simp))⟩
  · rw [if_neg h2]
    have h2' : (kd == 2) = false := by rw [beq_eq_false_iff_ne]; exact h2
    by_cases h4 : kd = 4
    · subst h4
      rw [if_pos rfl]
      have e1 := cat_str [34] tx
      have e2 := cat_str ([34] ++ tx) [34]
      rw [show ([34] ++ tx) ++ [34] = 34 :: (tx ++ [34]) by simp] at e2
      have hsz := size_str tx
      have hsz2 := size_str ([34] ++ tx)
      rw [List.length_append] at hsz2
      generalize (⟨tx.toArray⟩ : ByteArray) = s at *
      generalize (⟨([34] ++ tx).toArray⟩ : ByteArray) = s2 at *
      generalize (⟨(34 :: (tx ++ [34])).toArray⟩ : ByteArray) = s3 at *
      go_enter Tryd.func33, Tryd.ntmps33
      go_wp2_with fail
      go_ret
      exact ⟨rfl, below_new _ _⟩
    · rw [if_neg h4]
      have h4' : (kd == 4) = false := by rw [beq_eq_false_iff_ne]; exact h4
      generalize (⟨tx.toArray⟩ : ByteArray) = s at *
      go_enter Tryd.func33, Tryd.ntmps33
      go_wp2_with fail
      go_ret
      exact ⟨rfl, below_new _ _⟩
theorem draftL_len (kd nm : Int) (tx : List UInt8) (h0 : -9223372036854775808 ≤ nm) (h1 : nm ≤ 9223372036854775807) : (draftL kd tx nm).length ≤ tx.length + 21 := by
  have := Lib.itoa_length_le nm h0 h1
  unfold draftL
  split
  · omega
  · split
    · simp
    · omega
/-- What Write answers. -/
def writeR (kd : Int) (tx : List UInt8) (nm : Int) : Option (List UInt8) := if wholeB (draftL kd tx nm) kd tx nm then some (draftL kd tx nm) else none
def wrV : Option (List UInt8) → Value
  | some l => .tuple #[.string ⟨l.toArray⟩, .int .i64 0]
  | none => .tuple #[.string ⟨#[]⟩, .int .i64 2]
set_option maxHeartbeats 1000000 in
theorem nWrite (kd nm o1 o2 o3 : Int) (tx : List UInt8) (hx : tx.length ≤ 140737488355300) (h0 : -9223372036854775808 ≤ nm) (h1 : nm ≤ 9223372036854775807) (w : World) (hT : Tx w) :
    Calls Tryd.prog 17 #[.agg #[.int .i64 kd, .string ⟨tx.toArray⟩, .int .i64 nm, .int .i64 o1, .int .i64 o2, .int .i64 o3]] w fun e w' => e = .returned (wrV (writeR kd tx nm)) ∧ Below w.heap.size w w' := by
  have c1 := fun o => nDraft kd nm o1 o2 o3 tx hx h0 h1 (w.alloc o) (hT.below (below_new w o)).ten
  have c2 := fun w hT => nWhole (draftL kd tx nm) (by have := draftL_len kd nm tx h0 h1; omega) kd nm o1 o2 o3 tx w hT
  unfold writeR
  cases hw : wholeB (draftL kd tx nm) kd tx nm
  all_goals
    rw [hw] at c2
    simp only [if_true, Bool.false_eq_true, if_false, wrV]
    unfold str at c2
    generalize (⟨(draftL kd tx nm).toArray⟩ : ByteArray) = s2 at *
    generalize (⟨tx.toArray⟩ : ByteArray) = s at *
    go_enter Tryd.func17, Tryd.ntmps17
    go_wp2_with fail
    refine (c1 _).mono ?_
    rintro e w1 ⟨rfl, hb1⟩
    have hg1 := (hb1.block w.heap.size (by simp)).trans (heap_alloc_new _ _)
    have g0 : w1.cell? ⟨w.heap.size, 0, none⟩ = some (.int .i64 kd) := cell_of_row _ _ 0 _ _ _ hg1
    have g1 : w1.cell? ⟨w.heap.size, 1, none⟩ = some (.string s) := cell_of_row _ _ 1 _ _ _ hg1
    have g2 : w1.cell? ⟨w.heap.size, 2, none⟩ = some (.int .i64 nm) := cell_of_row _ _ 2 _ _ _ hg1
    have g3 : w1.cell? ⟨w.heap.size, 3, none⟩ = some (.int .i64 o1) := cell_of_row _ _ 3 _ _ _ hg1
    have g4 : w1.cell? ⟨w.heap.size, 4, none⟩ = some (.int .i64 o2) := cell_of_row _ _ 4 _ _ _ hg1
    have g5 : w1.cell? ⟨w.heap.size, 5, none⟩ = some (.int .i64 o3) := cell_of_row _ _ 5 _ _ _ hg1
    have hbw : Below w.heap.size w w1 := (below_new _ _).trans (hb1.mono (by simp))
    have c3 := c2 w1 (hT.below hbw).tw
    go_wp2_with fail
    refine c3.mono ?_
    rintro e w2 ⟨rfl, hb2⟩
    go_wp2_with fail
    go_ret2
    exact ⟨rfl, hbw.trans (hb2.mono hbw.size)⟩
end Go.Proofs.YtinbbcojilogeaaDoor.Tok
