import Derived.Test.YthndpbjplcphpaaDoorQ962363ed
namespace Go.Proofs.YthndpbjplcphpaaDoor.Cir
open Go.RowKit Go.Shelf Go.Proofs.YthndpbjplcphpaaDoor.Oct Go.Proofs.YthndpbjplcphpaaDoor.Tok Go.Proofs.YthndpbjplcphpaaDoor.Gt
abbrev SA (R br mq : Nat) (q : Int) (V : World) : Prop := V.cell? ⟨br, 0, none⟩ = some (.pointer (some ⟨R, 0, none⟩)) /\ V.cell? ⟨R, 0, none⟩ = some (.map (some mq)) /\ V.cell? ⟨R, 1, none⟩ = some (.int .i64 q) /\ V.cell? ⟨R, 2, none⟩ = some (.int .i64 64)
theorem SA.alloc {R br mq : Nat} {q : Int} {V : World} (h : SA R br mq q V) (o : Obj) : SA R br mq q (V.alloc o) :=
  ⟨((bnew V o).cell (World.block_lt_of_cell? _ _ h.1)).trans h.1, ((bnew V o).cell (World.block_lt_of_cell? _ _ h.2.1)).trans h.2.1, ((bnew V o).cell (World.block_lt_of_cell? _ _ h.2.2.1)).trans h.2.2.1, ((bnew V o).cell (World.block_lt_of_cell? _ _ h.2.2.2)).trans h.2.2.2⟩
theorem SA.set {R br mq : Nat} {q : Int} {V : World} (h : SA R br mq q V) (g j : Nat) (u : Value) (h1 : br ≠ g) (h2 : R ≠ g) : SA R br mq q (V.setCell ⟨g, j, none⟩ u) :=
  ⟨(cell_far _ _ _ _ h1).trans h.1, (cell_far _ _ _ _ h2).trans h.2.1, (cell_far _ _ _ _ h2).trans h.2.2.1, (cell_far _ _ _ _ h2).trans h.2.2.2⟩
end Go.Proofs.YthndpbjplcphpaaDoor.Cir
