/- strings.Builder's writing, as it is walked. -/
import Derived.Test.YteknpejkooemjabDoorI13
import Derived.Test.YteknpejkooemjabDoorLib
import Derived.Test.YteknpejkooemjabDoorPShelf
import Derived.Laws.Externs
namespace Go.Proofs.YteknpejkooemjabDoor.Pau
open Go.RowKit Go.Shelf Go.Proofs.YteknpejkooemjabDoor.Oct

theorem info5 : (Tryd.prog.info? 5).map (fun i => (i.zero, i.size, i.bytes)) = some (some (.int .u8 0), 1, 1) := by kernel_rfl
theorem xB : Builder.Extra Tryd.prog Tryd.laysBS_ren where
  sizeBuilder := by kernel_rfl
  liesBuilder := by kernel_rfl
  t5 := Tryd.underlying5
  a5 := Tryd.isAgg5
  z5 := Tryd.sizeOf5
  v5 := Tryd.zeroValue5
  infoByte := by kernel_rfl
  cellsByte := by kernel_rfl
  sizeByte := by kernel_rfl
  neB5 := by decide
/-- A builder at block b that holds the bytes l; its own address is laid or not. -/
def Bd (w : World) (B b : Nat) (p : Value) (l : List UInt8) : Prop := Lib.BuilderAt 56 5 B b p (bv l) w
def me (b : Nat) : Value := .pointer (some ⟨b, 0, none⟩)
set_option maxRecDepth 100000 in
set_option maxHeartbeats 1000000 in
theorem bCopy_new (B b : Nat) (l : List UInt8) (w : World) (h : Bd w B b (.pointer none) l) : Calls Tryd.prog 38 #[.pointer (some ⟨b, 0, none⟩)] w fun e w' => e = .returned (.tuple #[]) ∧ Bd w' B b (me b) l ∧ Below B w w' := by
  have h0 := h.cell0
  have hsh := h.shape
  have hfz : w.frozen? ⟨b, 0, none⟩ = false := by
    obtain ⟨-, v, hb, -⟩ := h
    exact Lib.frozen_of_heap hb 0
  obtain ⟨j, hj, hjs⟩ := Option.map_eq_some_iff.1 xB.sizeBuilder
  have H1 := hide (h.used (.pointer (some ⟨b, 0, none⟩)))
  have H2 := hide ((Below.refl B w).setCell (p := ⟨b, 0, none⟩) h.1 (.pointer (some ⟨b, 0, none⟩)))
  clear h
  go_enter Tryd.func38, Tryd.ntmps38
  go_wp2
  rw [Lib.run_to_unsafe w ⟨b, 0, none⟩ Tryd.underlying53 Tryd.underlying91 hj (by rw [hjs]; decide) hsh (Nat.zero_lt_succ 1)]
  simp only [Result.andThen]
  rw [Oper.upon_value]
  go_wp2
  rw [run_callFunc_extern Tryd.func48 (by kernel_rfl) (by kernel_rfl) (by kernel_rfl) (e := Extern.AbiNoEscape.same) (by kernel_rfl)]
  rw [Lib.run_noEscape]
  simp only [Result.andThen]
  rw [Oper.upon_value]
  go_wp2
  rw [Lib.run_from_unsafe w ⟨b, 0, none⟩ Tryd.underlying91 Tryd.underlying53 hj hsh xB.liesBuilder]
  simp only [Result.andThen]
  rw [Oper.upon_value]
  go_wp2
  go_end0
  exact ⟨rfl, H1.out, H2.out⟩
set_option maxRecDepth 100000 in
set_option maxHeartbeats 1000000 in
theorem bCopy_old (B b : Nat) (l : List UInt8) (w : World) (h : Bd w B b (me b) l) : Calls Tryd.prog 38 #[.pointer (some ⟨b, 0, none⟩)] w fun e w' => e = .returned (.tuple #[]) ∧ Bd w' B b (me b) l ∧ Below B w w' := by
  have h0 := h.cell0
  unfold me at h0
  obtain ⟨j, hj, hjs⟩ := Option.map_eq_some_iff.1 xB.sizeBuilder
  have H1 := hide h
  clear h
  go_enter Tryd.func38, Tryd.ntmps38
  go_wp2
  rw [Lib.run_neq_ptr_same w _ Tryd.underlying53 hj]
  go_wp2
  go_end0
  exact ⟨rfl, H1.out, Below.refl _ _⟩
end Go.Proofs.YteknpejkooemjabDoor.Pau
