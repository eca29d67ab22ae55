/- LastIndexAny of a long text. -/
import Derived.Test.YthpkmbgollollabDoorIc
import Derived.Deep.WholeRow
import Derived.Lib.Builder
namespace Go.Proofs.YthpkmbgollollabDoor.Dy
open Go.RowKit Go.Lib Go.Shelf Go.Proofs.YthpkmbgollollabDoor.Sca

theorem info256 : (Tryd.prog.info? 92).map (fun i => (i.zero, i.size)) = some (some (.agg (Array.replicate 256 (.bool false))), 256) := by kernel_rfl
theorem zeroSet : Tryd.zeroCells92 = Array.replicate 256 (.bool false) := by kernel_rfl
def SS : Array Value := Lib.setCells [43, 45]
theorem SS_size : SS.size = 256 := Lib.setCells_size _
theorem SS_at (x : UInt8) : SS[x.toNat]? = some (.bool (isS x)) := by
  unfold SS
  rw [Lib.setCells_at]
  congr 2
  unfold isS
  by_cases h1 : x = 43
  · subst h1; rfl
  · by_cases h2 : x = 45
    · subst h2; rfl
    · simp [h1, h2]
set_option maxRecDepth 100000 in
set_option maxHeartbeats 1000000 in
theorem yMakeSet (w : World) : Calls Tryd.prog 61 #[.string ⟨#[43, 45]⟩] w fun e w' => e = .returned (.tuple #[.agg SS, .bool true]) ∧ w' = w.alloc (.cells SS 92) :=
  Any.strings_makeASCIISet Tryd.laysAsciiSet (zero_of_info info256).1 (zero_of_info info256).2 ⟨#[43, 45]⟩ w (by decide) (by
    intro j b h
    match j, h with
    | 0, h => cases h; decide
    | 1, h => cases h; decide)
set_option maxRecDepth 100000 in
set_option maxHeartbeats 1000000 in
theorem yLast_long (l : List UInt8) (h8 : 8 < l.length) (hl : l.length ≤ 140737488355328) (w : World) :
    Calls Tryd.prog 47 #[.string ⟨l.toArray⟩, .string ⟨#[43, 45]⟩] w fun e w' => e = .returned (.int .i64 (lastA l.length l)) ∧ Below w.heap.size w w' := by
  have cS := fun w => yAsciiSet l.length w
  rw [decide_eq_true (by omega)] at cS
  have cM := yMakeSet w
  have hat : ∀ i (h : i < (⟨l.toArray⟩ : ByteArray).size), (⟨l.toArray⟩ : ByteArray)[i]'h = l.getD i 0 := fun i h => by
    have h' : i < l.length := by have : (⟨l.toArray⟩ : ByteArray).size = l.length := (by show l.toArray.size = _; simp); omega
    show l.toArray[i]'_ = _
    simp [List.getElem?_eq_getElem h']
  have hsz : (⟨l.toArray⟩ : ByteArray).size = l.length := by show l.toArray.size = _; simp
  generalize (⟨l.toArray⟩ : ByteArray) = s at *
  have z1 : ((l.length : Int) == 1) = false := by rw [beq_eq_false_iff_ne]; omega
  obtain ⟨R, HR⟩ : ∃ R, Hid (lastA l.length l = R) := ⟨_, hidP rfl⟩
  rw [HR.out]
  have hsc : (storeCells ⟨w.heap.size + 1, 0, none⟩ SS.toList 0).run Tryd.prog ((w.alloc (.cells SS 92)).alloc (.cells (Array.replicate 256 (.bool false)) 92)) = .ok () ((w.alloc (.cells SS 92)).alloc (.cells SS 92)) := by
    have := run_storeCells_new (P := Tryd.prog) (w.alloc (.cells SS 92)) 92 (Array.replicate 256 (.bool false)) SS (by rw [SS_size]; exact (zero_of_info info256).2) (by rw [SS_size, Array.size_replicate]) (Lib.setCells_one _)
    simpa using this
  rw [← zeroSet] at hsc
  have hcell : ∀ x : UInt8, ((w.alloc (.cells SS 92)).alloc (.cells SS 92)).cell? ⟨w.heap.size + 1, x.toNat, none⟩ = some (.bool (isS x)) := fun x => by
    rw [World.cell?_alloc_at _ _ _ _ (by simp), SS_at]
  have HC := hidP hcell
  have hbW : Below w.heap.size w ((w.alloc (.cells SS 92)).alloc (.cells SS 92)) := (below_new w _).trans ((below_new _ _).mono (by simp))
  have hss := SS_size
  clear hcell
  generalize SS = SS' at *
  go_enter Tryd.func47, Tryd.ntmps47
  go_wp2_with fail
  refine (cS _).mono ?_
  rintro e w1 ⟨rfl, hw⟩
  obtain rfl := hw.symm
  go_wp2_with fail
  refine cM.mono ?_
  rintro e w1 ⟨rfl, hw⟩
  obtain rfl := hw
  clear cM cS
  go_wp2_with fail
  clear hsc
  generalize (w.alloc (.cells SS' 92)).alloc (.cells SS' 92) = W at *
  go_loopw [8] (fun vi wr => ∃ n : Nat, vi = .int .i64 ((n : Int) - 1) ∧ n ≤ l.length ∧ Hid (lastA n l = R) ∧ wr = W) (fun vi _ => (RowKit.intOf vi + 1).toNat)
  case atStart => exact ⟨l.length, rfl, Nat.le_refl _, HR, rfl⟩
  case round =>
    clear HR
    obtain ⟨n, rfl, hn, HL, rfl⟩ := hrel
    cases n with
    | zero =>
      have hR : R = -1 := by rw [← HL.out]; rfl
      subst hR
      have e0 : ((0 : Nat) : Int) - 1 = -1 := rfl
      rw [e0]
      go_wp2_with fail
      go_ret
      exact ⟨rfl, hbW⟩
    | succ i =>
      have e1 : ((i + 1 : Nat) : Int) - 1 = (i : Int) := by omega
      rw [e1]
      have hi : i < s.size := by omega
      have hil : (i : Int) < (l.length : Int) := by omega
      have hge : (0 : Int) ≤ (i : Int) := by omega
      have hx := hat i hi
      have hL := HL.out
      unfold lastA at hL
      have hcx := HC.out (l.getD i 0)
      generalize l.getD i 0 = c at *
      have cC' := Any.asciiSet_contains Tryd.laysContains (w.heap.size + 1) c (isS c) _ hcx
      clear hat HL HC hcx
      cases hc : isS c with
      | true =>
        rw [hc] at hL cC'
        rw [if_pos rfl] at hL
        subst hL
        go_wp2_with fail
        refine cC'.mono ?_
        rintro e w1 ⟨rfl, hw⟩
        obtain rfl := hw.symm
        go_wp2_with fail
        go_ret
        exact ⟨rfl, hbW⟩
      | false =>
        rw [hc] at hL cC'
        rw [if_neg (by decide)] at hL
        have HL2 : Hid (lastA i l = R) := hidP hL
        clear hL
        go_wp2_with fail
        refine cC'.mono ?_
        rintro e w1 ⟨rfl, hw⟩
        obtain rfl := hw.symm
        go_wp2_with fail
        exact ⟨⟨i, rfl, by omega, HL2, trivial⟩, by simp [RowKit.intOf]⟩
end Go.Proofs.YthpkmbgollollabDoor.Dy
