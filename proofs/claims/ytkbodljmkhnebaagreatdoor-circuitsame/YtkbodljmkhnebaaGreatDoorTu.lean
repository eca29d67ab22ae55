/- Numbers gathered as long as none comes twice. -/
import Derived.Test.YtkbodljmkhnebaaGreatDoorTt
import Derived.RangeFuncNested
import Derived.RangeFuncBound
import Derived.RangeFuncCalls
import Derived.RangeFuncLeaves
import Derived.RangeFuncBox
import Derived.Shelf.Abstract
import Derived.Shelf.RegionOpen
import Derived.OwnWalkIn
import Derived.TacticsInMore
import Derived.LoopNIn
import Derived.LoopIn
import Derived.Maps.OwnIn
import Derived.Maps.AppendAt
namespace Go.Proofs.YtkbodljmkhnebaaGreatDoor.Cir
open Go.RowKit Go.Shelf Go.Proofs.YtkbodljmkhnebaaGreatDoor.Oct Go.Proofs.YtkbodljmkhnebaaGreatDoor.Tok Go.Proofs.YtkbodljmkhnebaaGreatDoor.Gt
attribute [local go_sem] Oper.semAt_some

/-- A number that fits. -/
abbrev N64 := { x : Nat // x < 4611686018427387904 }
/-- How often numbers have come: once, or not. -/
def SeenM (W : World) (b : Nat) (pre : List Nat) : Prop := ∃ D : DataW Value, W.ownsMap Tryz.prog 3 (plainElem Tryz.prog 3) b pre.length D ∧ ∀ x : Nat, D.atKey (.int .i64 (x : Int)) (.lit (.int .i64 0)) = .lit (.int .i64 (if x ∈ pre then 1 else 0))
theorem wfN (x : Nat) (h : x < 4611686018427387904) : (Lit.int .i64 (x : Int)).wf = true := by
  have := wrap64_wf (x : Int)
  rw [show wrap64 (x : Int) = (x : Int) by unfold wrap64; omega] at this
  exact this
theorem zInt2 (w : World) : (zeroValue 3).run Tryz.prog w = .ok (.int .i64 0) w := by kernel_rfl
theorem isKeyI (x : Int) : WideAt.IsKeyLit (.int .i64 x) := trivial
theorem intK : Maps.Keyed Tryz.prog 3 := Maps.int_keyed Tryz.underlying3
namespace SeenM
variable {W : World} {b : Nat} {pre : List Nat}
theorem new (w : World) : SeenM (w.alloc (.map #[] 0)) w.heap.size [] := ⟨.map [], World.ownsMap_made w _ _ _, fun _ => rfl⟩
theorem look (h : SeenM W b pre) (x : Nat) (hx : x < 4611686018427387904) : (Instr.lookup 270 (.map (some b)) (.int .i64 (x : Int)) false).run Tryz.prog W = .ok (.int .i64 (if x ∈ pre then 1 else 0)) W := by
  obtain ⟨D, h1, h2⟩ := h
  obtain ⟨c, hr, ha, _⟩ := h1.lookup_int intK Tryz.underlying270 Tryz.underlying3 (zInt2 W) (Maps.keyOf_int_mk Tryz.underlying3 (wfN x hx))
  rw [h2 x] at ha
  simp only [DataW.lit.injEq, Lit.int.injEq, true_and] at ha
  rw [hr, ← ha]
theorem store (h : SeenM W b pre) (hl : pre.length < 4398046511105) (x : Nat) (hx : x < 4611686018427387904) (hn : x ∉ pre) :
    ∃ W1, (Instr.mapUpdate 270 (.map (some b)) (.int .i64 (x : Int)) (.int .i64 1)).run Tryz.prog W = .ok () W1 ∧ SeenM W1 b (pre ++ [x]) ∧ W.grownBy W1 (some b) := by
  obtain ⟨D, h1, h2⟩ := h
  obtain ⟨W1, hr, ho, hg⟩ := h1.update intK Tryz.underlying270 (by unfold maxLen; omega) (Maps.keyOf_int_mk Tryz.underlying3 (wfN x hx)) (plainElem_int (a := 1) Tryz.underlying3 (by decide))
  refine ⟨W1, hr, ⟨_, by rw [List.length_append]; exact ho, fun y => ?_⟩, hg⟩
  by_cases e : y = x
  · subst e
    rw [Maps.atKey_put_same h1.isMap (isKeyI _)]
    simp
  · have ne : Lit.int .i64 (y : Int) ≠ Lit.int .i64 (x : Int) := fun h => e (by simp only [Lit.int.injEq, true_and] at h; omega)
    rw [Maps.atKey_put_other ne, h2 y]
    simp [e]
theorem store2 (h : SeenM W b pre) (hl : pre.length < 4398046511105) (x : Nat) (hx : x < 4611686018427387904) :
    ∃ W1, (Instr.mapUpdate 270 (.map (some b)) (.int .i64 (x : Int)) (.int .i64 2)).run Tryz.prog W = .ok () W1 ∧ (Instr.lookup 270 (.map (some b)) (.int .i64 (x : Int)) false).run Tryz.prog W1 = .ok (.int .i64 2) W1 ∧ W.grownBy W1 (some b) := by
  obtain ⟨D, h1, h2⟩ := h
  obtain ⟨W1, hr, ho, hg⟩ := h1.update intK Tryz.underlying270 (by unfold maxLen; omega) (Maps.keyOf_int_mk Tryz.underlying3 (wfN x hx)) (plainElem_int (a := 2) Tryz.underlying3 (by decide))
  obtain ⟨c, hr2, ha, _⟩ := ho.lookup_int intK Tryz.underlying270 Tryz.underlying3 (zInt2 W1) (Maps.keyOf_int_mk Tryz.underlying3 (wfN x hx))
  rw [Maps.atKey_put_same h1.isMap (isKeyI _)] at ha
  simp only [DataW.lit.injEq, Lit.int.injEq, true_and] at ha
  exact ⟨W1, hr, by rw [hr2, ← ha], hg⟩
theorem kept {W' : World} {row : Option Nat} (h : SeenM W b pre) (hg : W.grownBy W' row) (hne : some b ≠ row) : SeenM W' b pre := by
  obtain ⟨D, h1, h2⟩ := h
  exact ⟨D, h1.kept hg hne, h2⟩
theorem block (h : SeenM W b pre) : ∃ es cl, W.heap[b]? = some (.map es cl) := by
  obtain ⟨D, ⟨es, cl, hb, _⟩, _⟩ := h
  exact ⟨es, cl, hb⟩
end SeenM
/-- What once keeps between two rounds. -/
def OI (w : World) (pre : List N64) (W : World) : Prop :=
  ((pre.map (·.1)).Nodup ∧ (∃ v, Boxed W (w.heap.size + 1 + 1) 30 v ∧ W.ownsRow w.heap.size 3 1 v pre.length (pre.map fun x => iv x.1)) ∧ Boxed W w.heap.size 30 (.slice none 0 0) ∧ Boxed W (w.heap.size + 1) 4 (.bool false) ∧
    Boxed W (w.heap.size + 1 + 1 + 1 + 1) 270 (.map (some (w.heap.size + 1 + 1 + 1))) ∧ SeenM W (w.heap.size + 1 + 1 + 1) (pre.map (·.1))) ∧ Below w.heap.size w W
def OX (w : World) (c : Code) (pre : List N64) (W : World) : Prop := (c = .ret ∧ ¬ (pre.map (·.1)).Nodup ∧ W.cell? ⟨w.heap.size, 0, none⟩ = some (.slice none 0 0) ∧ W.cell? ⟨w.heap.size + 1, 0, none⟩ = some (.bool false)) ∧ Below w.heap.size w W
theorem notRow {A : World} {k : Nat} {cs : Array Value} {t : TypeId} {fr : Nat × Nat} {row : Option Nat} (hk : A.heap[k]? = some (.cells cs t fr)) (hr : ∀ r, row = some r → ∃ o, A.heap[r]? = some o ∧ o.isCells = false) : some k ≠ row := by
  intro e
  obtain ⟨o, h1, h2⟩ := hr k e.symm
  rw [hk] at h1
  cases h1
  cases h2
theorem own_notRow {A A' : World} {B e n m c : Nat} {ao : Option Addr} {xs : List Value} {row : Option Nat} (h : A.ownsRow B e 1 (.slice ao m c) n xs) (hg : A.grownBy A' row) (hr : ∀ r, row = some r → ∃ o, A.heap[r]? = some o ∧ o.isCells = false) : A'.ownsRow B e 1 (.slice ao m c) n xs :=
  own_of_block h (fun k hk => by
    obtain ⟨lo, hi⟩ := own_lt h k hk
    refine hg.block k hi ?_
    rcases h.2 with h0 | ⟨g, cap, cur, hv, hbg, hgg, h1⟩
    · simp only [Value.slice.injEq] at h0
      rw [h0.1.1] at hk
      cases hk
    · simp only [Value.slice.injEq] at hv
      rw [hv.1] at hk
      cases hk
      exact notRow hgg hr)
theorem OI.own (w : World) (B : Nat) (hB : B = w.heap.size + 5) : OwnFrom B (OI w) := by
  rintro s A A' row ⟨⟨h1, ⟨v, h2, h3⟩, h4, h5, h6, h7⟩, h8⟩ hg hr
  have hr2 : ∀ r, row = some r → ∃ o, A.heap[r]? = some o ∧ o.isCells = false := fun r e => (hr r e).2
  have hlt : ∀ k, k < w.heap.size + 5 → some k ≠ row := fun k hk e => by have := (hr k e.symm).1; omega
  refine ⟨⟨h1, ⟨v, h2.kept hg (hlt _ (by omega)), ?_⟩, h4.kept hg (hlt _ (by omega)), h5.kept hg (hlt _ (by omega)), h6.kept hg (hlt _ (by omega)), h7.kept hg (hlt _ (by omega))⟩, ?_⟩
  · have : ∃ ao m c, v = .slice ao m c := by
      rcases h3.2 with ⟨e, _⟩ | ⟨g, cap, cur, e, _⟩
      · exact ⟨_, _, _, e⟩
      · exact ⟨_, _, _, e⟩
    obtain ⟨ao, m, c, rfl⟩ := this
    exact own_notRow h3 hg hr2
  · exact h8.grown hg h8.size (fun k hk => by have := (hr k hk).1; omega)
theorem OX.own (w : World) (B : Nat) (hB : B = w.heap.size + 5) (c : Code) : OwnFrom B (OX w c) := by
  rintro s A A' row ⟨⟨h1, h2, h3, h4⟩, h8⟩ hg hr
  have hr2 : ∀ r, row = some r → ∃ o, A.heap[r]? = some o ∧ o.isCells = false := fun r e => (hr r e).2
  exact ⟨⟨h1, h2, cell_kept h3 hg hr2, cell_kept h4 hg hr2⟩, h8.grown hg h8.size (fun k hk => by have := (hr k hk).1; omega)⟩
end Go.Proofs.YtkbodljmkhnebaaGreatDoor.Cir
