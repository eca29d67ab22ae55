import Derived.Test.YthndpbjplcphpaaDoorQb973908d
import Derived.RangeFuncNested
import Derived.RangeFuncBound
import Derived.Shelf.RegionOpen
import Derived.LoopNIn
import Derived.LoopIn
import Derived.Maps.OwnIn
namespace Go.Proofs.YthndpbjplcphpaaDoor.Cir
open Go.RowKit Go.Shelf Go.Proofs.YthndpbjplcphpaaDoor.Oct Go.Proofs.YthndpbjplcphpaaDoor.Tok Go.Proofs.YthndpbjplcphpaaDoor.Gt
attribute [local go_sem] Oper.semAt_some
abbrev N64 := { x : Nat // x < 4611686018427387904 }
def SeenM (W : World) (b : Nat) (pre : List Nat) : Prop := ∃ D : DataW Value, W.ownsMap Tryd.prog 3 (plainElem Tryd.prog 3) b pre.length D /\ ∀ x : Nat, D.atKey (.int .i64 (x : Int)) (.lit (.int .i64 0)) = .lit (.int .i64 (if x ∈ pre then 1 else 0))
namespace SeenM
variable {W : World} {b : Nat} {pre : List Nat}
theorem kept {W' : World} {row : Option Nat} (h : SeenM W b pre) (hg : W.grownBy W' row) (hne : some b ≠ row) : SeenM W' b pre := by
  obtain ⟨D, h1, h2⟩ := h
  exact ⟨D, h1.kept hg hne, h2⟩
theorem block (h : SeenM W b pre) : ∃ es cl, W.heap[b]? = some (.map es cl) := by
  obtain ⟨D, ⟨es, cl, hb, _⟩, _⟩ := h
  exact ⟨es, cl, hb⟩
end SeenM
def OX (w : World) (c : Code) (pre : List N64) (W : World) : Prop := (c = .ret /\ ¬ (pre.map (·.1)).Nodup /\ W.cell? ⟨w.heap.size, 0, none⟩ = some (.slice none 0 0) /\ W.cell? ⟨w.heap.size + 1, 0, none⟩ = some (.bool false)) /\ Below w.heap.size w W
theorem OX.own (w : World) (B : Nat) (hB : B = w.heap.size + 5) (c : Code) : OwnFrom B (OX w c) := by
  rintro s A A' row ⟨⟨h1, h2, h3, h4⟩, h8⟩ hg hr
  have hr2 : ∀ r, row = some r -> ∃ o, A.heap[r]? = some o /\ o.isCells = false := fun r e => (hr r e).2
  exact ⟨⟨h1, h2, cell_kept h3 hg hr2, cell_kept h4 hg hr2⟩, h8.grown hg h8.size (fun k hk => by have := (hr k hk).1; omega)⟩
end Go.Proofs.YthndpbjplcphpaaDoor.Cir
