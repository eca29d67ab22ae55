/- Registers and gates by their names. -/
import Derived.Test.YtkbodljmkhnebaaGreatDoorTd8
import Derived.Test.YtkbodljmkhnebaaGreatDoorAq
namespace Go.Proofs.YtkbodljmkhnebaaGreatDoor.Cir
open Go.RowKit Go.Shelf Go.Proofs.YtkbodljmkhnebaaGreatDoor.Oct Go.Proofs.YtkbodljmkhnebaaGreatDoor.Tok Go.Proofs.YtkbodljmkhnebaaGreatDoor.Gt

/-- A register as a value. -/
def rgV (r : Rg) : Value := .agg #[.int .i64 (r.fr : Int), .int .i64 (r.sz : Int)]
/-- Registers by their names. -/
def RM (w : World) (b : Nat) (f : Nm → Option Rg) : Prop := ∃ n : Nat, True ∧ Mp w b n (fun x => (f x).map rgV)
theorem zReg (w : World) : (zeroValue 225).run Tryz.prog w = .ok (.agg #[.int .i64 0, .int .i64 0]) w := by kernel_rfl
theorem RM.kept {w w' : World} {b : Nat} {f : Nm → Option Rg} {M : List Nat} (h : RM w b f) (hk : Kb M w w') (hm : b ∉ M) : RM w' b f := by
  obtain ⟨n, hn, h⟩ := h
  exact ⟨n, hn, h.kept hk hm⟩
theorem RM.below {w w' : World} {b : Nat} {f : Nm → Option Rg} (h : RM w b f) (hb : Below w.heap.size w w') : RM w' b f := by
  obtain ⟨n, hn, h⟩ := h
  exact ⟨n, hn, h.below hb⟩
theorem RM.look {w : World} {b : Nat} {f : Nm → Option Rg} (h : RM w b f) (x : Nm) (hx : x.length ≤ 140737488355328) :
    (Instr.lookup 79 (.map (some b)) (.string ⟨x.toArray⟩) true).run Tryz.prog w = .ok (.tuple #[rgV ((f x).getD ⟨0, 0⟩), .bool (f x).isSome]) w := by
  obtain ⟨n, hn, h⟩ := h
  rw [h.look Tryz.underlying79 (zReg w) x hx]
  cases f x <;> rfl
theorem RM.look1 {w : World} {b : Nat} {f : Nm → Option Rg} (h : RM w b f) (x : Nm) (hx : x.length ≤ 140737488355328) :
    (Instr.lookup 79 (.map (some b)) (.string ⟨x.toArray⟩) false).run Tryz.prog w = .ok (rgV ((f x).getD ⟨0, 0⟩)) w := by
  obtain ⟨n, hn, h⟩ := h
  rw [h.look1 Tryz.underlying79 (zReg w) x hx]
  cases f x <;> rfl
set_option maxRecDepth 100000 in
set_option maxHeartbeats 2000000 in
theorem cHas (g off b : Nat) (f : Nm → Option Rg) (x : Nm) (hx : x.length ≤ 140737488355328) (w : World) (hc : w.cell? ⟨g, off, none⟩ = some (.map (some b))) (hM : RM w b f) :
    Calls Tryz.prog 205 #[.pointer (some ⟨g, off, none⟩), .string ⟨x.toArray⟩] w fun e w' => e = .returned (.bool (f x).isSome) ∧ Below w.heap.size w w' := by
  have hL := hM.look x hx
  generalize (f x).isSome = B at *
  generalize (f x).getD ⟨0, 0⟩ = r at *
  generalize (⟨x.toArray⟩ : ByteArray) = s at *
  obtain ⟨a, c⟩ := r
  unfold rgV at hL
  simp only at hL
  clear hM
  go_enter Tryz.func205, Tryz.ntmps205
  go_wp2_with fail
  go_ret
  exact ⟨rfl, bnew _ _⟩
end Go.Proofs.YtkbodljmkhnebaaGreatDoor.Cir
